/- What makes and agrees answer. -/
import Derived.Test.YtfnnhekjeobicaaGreatDoorMakes
namespace Go.Proofs.YtfnnhekjeobicaaGreatDoor
open Go.RowKit Go.Maps Go.WideElems

/-- what makes does to terms of at most so many levels -/
def MkC (n : Nat) : Prop := ∀ (w : World) (p : Nat) (o : Option Nat) (N : NM) (t : Bs), Rm w p o N → t.length ≤ 100000 → Tm.deep t ≤ n →
  Calls Tryz.prog 26 #[.pointer (some ⟨p, 0, none⟩), St t] w fun e w' => e = .returned (.bool (makesF N n t)) ∧ Below w.heap.size w w'
/-- whether an agreed secret can be made -/
def agreesF (N : NM) (n : Nat) (a b : Bs) : Bool := (makesF N n a && hasKeyF N b (makesF N n b)) || (makesF N n b && hasKeyF N a (makesF N n a))
theorem two_below {w0 w1 w2 : World} (h1 : Below w0.heap.size w0 w1) (h2 : Below w1.heap.size w1 w2) : Below w0.heap.size w0 w2 := h1.trans (h2.mono h1.size)

set_option maxHeartbeats 2000000 in
theorem agrees_any {n : Nat} (hM : MkC n) (w : World) (p : Nat) (o : Option Nat) (N : NM) (h : Rm w p o N) (a b : Bs) (ha : a.length ≤ 100000) (hb : b.length ≤ 100000) (da : Tm.deep a ≤ n) (db : Tm.deep b ≤ n) :
    Calls Tryz.prog 51 #[.pointer (some ⟨p, 0, none⟩), St a, St b] w fun e w' => e = .returned (.bool (agreesF N n a b)) ∧ Below w.heap.size w w' := by
  have HM1 := hid (fun W (hR : Rm W p o N) => hM W p o N a hR ha da)
  have HM2 := hid (fun W (hR : Rm W p o N) => hM W p o N b hR hb db)
  have HKB := hid (fun W (hR : Rm W p o N) m => hasKey_any W p o N hR b hb m)
  have HKA := hid (fun W (hR : Rm W p o N) m => hasKey_any W p o N hR a ha m)
  have HE : Hid (agreesF N n a b = ((makesF N n a && hasKeyF N b (makesF N n b)) || (makesF N n b && hasKeyF N a (makesF N n a)))) := hid rfl
  have HR := hid h
  clear h hM ha hb da db
  generalize makesF N n a = ma at HM1 HE
  generalize makesF N n b = mb at HM2 HE
  generalize agreesF N n a b = res at HE ⊢
  generalize hasKeyF N b = kb at HKB HE
  generalize hasKeyF N a = ka at HKA HE
  go_enter Tryz.func51, Tryz.ntmps51
  go_wp2_with fail
  refine (HM1.out _ HR.out).mono ?_
  rintro e w1 ⟨rfl, hb1⟩
  have HR1 := hid (HR.out.below hb1)
  have HB1 := hid hb1
  clear hb1
  go_wp2_with fail
  refine (HM2.out _ HR1.out).mono ?_
  rintro e w2 ⟨rfl, hb2⟩
  have HR2 := hid (HR1.out.below hb2)
  have HB2 := hid (two_below HB1.out hb2)
  clear hb2
  cases ma
  · cases mb
    · go_wp2_with fail
      go_ret
      exact ⟨by rw [HE.out]; rfl, HB2.out⟩
    · go_wp2_with fail
      refine (HKA.out _ HR2.out _).mono ?_
      rintro e w3 ⟨rfl, hb3⟩
      have HB3 := hid (two_below HB2.out hb3)
      clear hb3
      go_wp2_with fail
      go_ret
      exact ⟨by rw [HE.out]; simp, HB3.out⟩
  · go_wp2_with fail
    refine (HKB.out _ HR2.out _).mono ?_
    rintro e w3 ⟨rfl, hb3⟩
    have HB3 := hid (two_below HB2.out hb3)
    have HR3 := hid (HR2.out.below hb3)
    clear hb3
    cases hkb : kb mb
    · cases mb
      · go_wp2_with fail
        go_ret
        exact ⟨by rw [HE.out, hkb]; rfl, HB3.out⟩
      · go_wp2_with fail
        refine (HKA.out _ HR3.out _).mono ?_
        rintro e w4 ⟨rfl, hb4⟩
        have HB4 := hid (two_below HB3.out hb4)
        clear hb4
        go_wp2_with fail
        go_ret
        exact ⟨by rw [HE.out, hkb]; simp, HB4.out⟩
    · go_wp2_with fail
      go_ret
      exact ⟨by rw [HE.out, hkb]; simp, HB3.out⟩
end Go.Proofs.YtfnnhekjeobicaaGreatDoor
