/- What the document's makers answer. -/
import Derived.Test.YtkifchjpgdmcoaaDoorRRfAll
import Derived.Test.YtkifchjpgdmcoaaDoorAskAll
namespace Go.Proofs.YtkifchjpgdmcoaaDoor
open Go.RowKit

/-- what is made of a text that should be a right term -/
def madeRes (l : Bs) : Bs × Nat := if Tm.deep l = 0 then ([], 3) else (l, 0)

set_option maxHeartbeats 1000000 in
set_option maxRecDepth 100000 in
theorem rmade_any (l : Bs) (w : World) : Calls Tryd.prog 55 #[St l] w fun en w' => en = made (madeRes l) ∧ Below w.heap.size w w' := by
  by_cases hd : Tm.deep l = 0
  · have HR : Hid (madeRes l = ([], 3)) := by apply hid; unfold madeRes; rw [if_pos hd]
    have HD := hid hd
    clear hd
    go_enter Tryd.func55, Tryd.ntmps55
    go_wp2_with fail
    refine (rright_any l _).mono ?_
    rintro e w1 ⟨rfl, hb⟩
    have HB := hid hb
    clear hb
    rw [HD.out]
    go_wp2_with fail
    go_ret2
    exact ⟨by rw [HR.out]; rfl, HB.out⟩
  · have HR : Hid (madeRes l = (l, 0)) := by apply hid; unfold madeRes; rw [if_neg hd]
    have HD : Hid ((Tm.deep l != 0) = true) := by apply hid; simpa using hd
    clear hd
    go_enter Tryd.func55, Tryd.ntmps55
    go_wp2_with fail
    refine (rright_any l _).mono ?_
    rintro e w1 ⟨rfl, hb⟩
    have HB := hid hb
    clear hb
    rw [HD.out]
    go_wp2_with fail
    go_ret2
    exact ⟨by rw [HR.out]; rfl, HB.out⟩

/-- one byte as a text -/
theorem conv_one (w : World) (op : UInt8) : (convert 80 9 (.slice (some ⟨w.heap.size, 0, none⟩) 1 1)).run Tryd.prog (w.alloc (.cells #[.int .u8 (op.toNat : Int)] 5)) = .ok (St [op]) (w.alloc (.cells #[.int .u8 (op.toNat : Int)] 5)) := by
  refine run_convert_bytes_back (P := Tryd.prog) _ 80 9 5 ⟨w.heap.size, 0, none⟩ 1 [op] Tryd.underlying80 Tryd.underlying5 Tryd.underlying9 (fun j hj => ?_)
  have hg : (w.alloc (.cells #[.int .u8 (op.toNat : Int)] 5)).heap[w.heap.size]? = some (.cells #[.int .u8 (op.toNat : Int)] 5 (0, 0)) := heap_alloc_new w _
  match j, hj with
  | 0, _ => show World.cell? _ ⟨w.heap.size, 0, none⟩ = _; rw [cell_of_heap hg]; rfl

theorem st_one (op : UInt8) (b : Bs) : (⟨#[op]⟩ : ByteArray) ++ (⟨b.toArray⟩ : ByteArray) = ⟨(op :: b).toArray⟩ := st_app [op] b
theorem st_two (op : UInt8) (a b : Bs) : (⟨#[op]⟩ : ByteArray) ++ (⟨a.toArray⟩ : ByteArray) ++ (⟨b.toArray⟩ : ByteArray) = ⟨(op :: (a ++ b)).toArray⟩ := by
  rw [st_one, st_app]; rfl

/-- what One and Two answer -/
def oneRes (op : UInt8) (a : Bs) : Bs × Nat := if Tm.deep a = 0 then ([], 10) else madeRes (op :: a)
def twoRes (op : UInt8) (a b : Bs) : Bs × Nat := if Tm.deep a = 0 ∨ Tm.deep b = 0 then ([], 10) else madeRes (op :: (a ++ b))

set_option maxHeartbeats 1000000 in
set_option maxRecDepth 100000 in
theorem rtwo_any (op : UInt8) (a b : Bs) (w : World) : Calls Tryd.prog 42 #[.int .u8 (op.toNat : Int), St a, St b] w fun en w' => en = made (twoRes op a b) ∧ Below w.heap.size w w' := by
  by_cases hd : Tm.deep a = 0
  · have HR : Hid (twoRes op a b = ([], 10)) := by apply hid; unfold twoRes; rw [if_pos (Or.inl hd)]
    have HD := hid hd
    clear hd
    go_enter Tryd.func42, Tryd.ntmps42
    go_wp2_with fail
    refine (rright_any a _).mono ?_
    rintro e w1 ⟨rfl, hb⟩
    have HB := hid hb
    clear hb
    rw [HD.out]
    go_wp2_with fail
    go_ret2
    exact ⟨by rw [HR.out]; rfl, HB.out⟩
  · have HD : Hid ((Tm.deep a != 0) = true) := by apply hid; simpa using hd
    have HL : Hid (a.length ≤ 16384) := hid (Tm.deep_is hd).2
    by_cases hd2 : Tm.deep b = 0
    · have HR : Hid (twoRes op a b = ([], 10)) := by apply hid; unfold twoRes; rw [if_pos (Or.inr hd2)]
      have HD2 := hid hd2
      clear hd hd2
      go_enter Tryd.func42, Tryd.ntmps42
      go_wp2_with fail
      refine (rright_any a _).mono ?_
      rintro e w1 ⟨rfl, hb⟩
      have HB := hid hb
      clear hb
      rw [HD.out]
      go_wp2_with fail
      refine (rright_any b _).mono ?_
      rintro e w2 ⟨rfl, hb⟩
      have HB2 := hid (HB.out.trans (hb.mono HB.out.size))
      clear hb
      rw [HD2.out]
      go_wp2_with fail
      go_ret2
      exact ⟨by rw [HR.out]; rfl, HB2.out⟩
    · have HR : Hid (twoRes op a b = madeRes (op :: (a ++ b))) := by apply hid; unfold twoRes; rw [if_neg (by simp [hd, hd2])]
      have HD2 : Hid ((Tm.deep b != 0) = true) := by apply hid; simpa using hd2
      have HL2 : Hid (b.length ≤ 16384) := hid (Tm.deep_is hd2).2
      clear hd hd2
      go_enter Tryd.func42, Tryd.ntmps42
      go_wp2_with fail
      refine (rright_any a _).mono ?_
      rintro e w1 ⟨rfl, hb⟩
      have HB := hid hb
      clear hb
      rw [HD.out]
      go_wp2_with fail
      refine (rright_any b _).mono ?_
      rintro e w2 ⟨rfl, hb⟩
      have HB2 := hid (HB.out.trans (hb.mono HB.out.size))
      clear hb
      rw [HD2.out]
      have hcv := conv_one w2 op
      have hln : ¬ 9223372036854775807 < 1 + a.length := by have := HL.out; omega
      have hln2 : ¬ 9223372036854775807 < 1 + a.length + b.length := by have := HL.out; have := HL2.out; omega
      go_wp2_with fail
      rw [st_two]
      refine (rmade_any (op :: (a ++ b)) _).mono ?_
      rintro e w3 ⟨rfl, hb⟩
      have HB3 := hid (HB2.out.trans ((below_alloc_self' w2 (.cells #[.int .u8 (op.toNat : Int)] 5)).mono HB2.out.size |>.trans (hb.mono (by have := HB2.out.size; simp; omega))))
      clear hb hcv hln hln2
      go_wp2_with fail
      go_ret2
      exact ⟨by rw [HR.out]; rfl, HB3.out⟩
end Go.Proofs.YtkifchjpgdmcoaaDoor
