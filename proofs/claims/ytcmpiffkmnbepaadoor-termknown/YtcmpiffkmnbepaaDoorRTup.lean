/- A tuple, as the document makes it. -/
import Derived.Test.YtcmpiffkmnbepaaDoorRMk
namespace Go.Proofs.YtcmpiffkmnbepaaDoor
open Go.RowKit

set_option maxHeartbeats 2000000 in
theorem rtuple_any (ks : List Bs) (kv : Value) (w : World) (hk : Texts w kv ks) (hn : ks.length ≤ 40) : Calls Tryd.prog 26 #[kv] w fun en w' => en = made (tupRes ks) ∧ Below w.heap.size w w' := by
  obtain ⟨ao, cap, rfl, hcell⟩ := hk
  have HC := hid hcell
  clear hcell
  by_cases h0 : 32 < ks.length
  · have HR : Hid (tupRes ks = ([], 3)) := by apply hid; unfold tupRes; rw [if_pos h0]
    have h0' : (32 : Int) < (ks.length : Int) := by omega
    go_enter Tryd.func26, Tryd.ntmps26
    go_wp2_with fail
    go_ret2
    exact ⟨by rw [HR.out]; rfl, Below.refl _ _⟩
  · have h0' : ¬ (32 : Int) < (ks.length : Int) := by omega
    have HB : Hid (∀ i (h : i < ks.length), Tm.deep ks[i] = 0 → tupRes ks = ([], 10)) := by
      apply hid; intro i h hz; unfold tupRes; rw [if_neg h0]; exact tuple_bad _ _ ks i h hz
    have HG : Hid ((∀ k ∈ ks, Tm.deep k ≠ 0) → madeRes (84 :: (dec ks.length ++ [58] ++ ks.flatten)) = tupRes ks) := by
      apply hid; intro h; unfold tupRes madeRes; rw [if_neg h0]; exact tuple_res ks (by omega) h
    have HD := hid (dec_len ks.length (by omega))
    have HF : Hid (∀ W : World, Calls Tryd.prog 57 #[.int .u64 (ks.length : Int)] W fun e w' => e = .returned (St (dec ks.length)) ∧ Below W.heap.size W w') := hid (rdig_any ks.length (by omega))
    have hw : IntKind.u64.wrap (ks.length : Int) = (ks.length : Int) := by rw [IntKind.wrap_u64]; omega
    generalize dec ks.length = D at HG HD HF
    have ha1 : ∀ W, (Op.stringOp .add (⟨#[84]⟩ : ByteArray) ⟨D.toArray⟩).run Tryd.prog W = .ok (.string ⟨(84 :: D).toArray⟩) W := fun W => by
      rw [run_string_add_sum W _ _ (by rw [st_size]; have := HD.out; show 1 + D.length ≤ _; omega)]; exact congrArg (fun z => Result.ok (Value.string z) W) (st_app [84] D)
    have ha2 : ∀ W, (Op.stringOp .add (⟨(84 :: D).toArray⟩ : ByteArray) ⟨#[58]⟩).run Tryd.prog W = .ok (.string ⟨(84 :: (D ++ [58])).toArray⟩) W := fun W => by
      rw [run_string_add_sum W _ _ (by rw [st_size]; have := HD.out; show (D.length + 1) + 1 ≤ _; omega)]; exact congrArg (fun z => Result.ok (Value.string z) W) (st_app (84 :: D) [58])
    go_enter Tryd.func26, Tryd.ntmps26
    go_wp2_with fail
    refine (HF.out _).mono ?_
    rintro e w1 ⟨rfl, hb⟩
    have HB1 := hid hb
    clear hb
    go_wp2_with fail
    clear ha1 ha2 hw
    go_loopg [4, 5] ks.length (fun g sv iv wr => ∃ (i : Nat) (F : Bs), i ≤ ks.length ∧ g = ks.length - i ∧ iv = .int .i64 i ∧ sv = St F ∧ F = 84 :: (D ++ [58] ++ (ks.take i).flatten) ∧ F.length ≤ 100 + 16384 * i ∧ (∀ k ∈ ks.take i, Tm.deep k ≠ 0) ∧ Below w.heap.size w wr)
    case atStart =>
      refine ⟨0, 84 :: (D ++ [58]), Nat.zero_le _, rfl, rfl, by first | rfl | simp, by simp, by have := HD.out; simp; omega, by simp, HB1.out⟩
    case round =>
      obtain ⟨i, F, hi, rfl, rfl, rfl, hF, hFl, hall, hbl⟩ := hrel
      have HFE := hid hF
      have HA := hid hall
      have HL := hid hbl
      clear hF hall
      by_cases hlt : i < ks.length
      · obtain ⟨g, o, rfl, hg, hc⟩ := HC.out (by intro e; rw [e] at hlt; simp at hlt)
        have hci : wr.cell? ⟨g, o + i, none⟩ = some (St ks[i]) := by
          rw [hbl.cell (p := ⟨g, o + i, none⟩) hg]; exact hc i hlt
        have HCI := hid (fun (W : World) (hB : Below wr.heap.size wr W) => (hB.cell (p := ⟨g, o + i, none⟩) (Nat.lt_of_lt_of_le hg hbl.size)).trans hci)
        clear hc hbl
        have hlt' : (i : Int) < (ks.length : Int) := by omega
        have HTS := hid (take_succ' ks i hlt)
        have HBi := hid (HB.out i hlt)
        have HE := hid (rright_any ks[i])
        have HLE : Hid (Tm.deep ks[i] ≠ 0 → ks[i].length ≤ 16384) := hid (fun h => (Tm.deep_is h).2)
        generalize ks[i] = k at *
        go_wp2_with fail
        refine (HE.out _).mono ?_
        rintro e w2 ⟨rfl, hb⟩
        have hci2 := HCI.out _ hb
        have HL1 := hid (HL.out.trans (hb.mono HL.out.size))
        clear hb hci
        by_cases hz : Tm.deep k = 0
        · have HR := hid (HBi.out hz)
          rw [show (Tm.deep k != 0) = false by simp [hz]]
          clear hz
          go_wp2_with fail
          go_ret2
          exact ⟨by rw [HR.out]; rfl, HL1.out⟩
        · have hkl := HLE.out hz
          rw [show (Tm.deep k != 0) = true by simp [hz]]
          have HZ := hid hz
          clear hz
          have ha : ∀ W, (Op.stringOp .add (⟨F.toArray⟩ : ByteArray) ⟨k.toArray⟩).run Tryd.prog W = .ok (.string ⟨(F ++ k).toArray⟩) W := fun W => by
            rw [run_string_add_sum W _ _ (by rw [st_size, st_size]; omega), st_app]
          go_wp2_with fail
          go_roundg (ks.length - (i + 1))
          case measure => omega
          case rel =>
            refine ⟨i + 1, F ++ k, by omega, rfl, by simp, rfl, ?_, by simp; omega, ?_, HL1.out⟩
            · rw [HTS.out, flat_snoc, HFE.out]; simp
            · intro x hx
              rw [HTS.out] at hx
              rcases List.mem_append.1 hx with hx | hx
              · exact HA.out x hx
              · have : x = k := by simpa using hx
                rw [this]; exact HZ.out
      · have hik : i = ks.length := by omega
        subst hik
        have HTL : Hid (ks.take ks.length = ks) := by apply hid; simp
        have HR : Hid (madeRes F = tupRes ks) := by
          apply hid
          rw [HFE.out, HTL.out]
          exact HG.out (fun k hk => HA.out k (by rw [HTL.out]; exact hk))
        have HM := hid (rmade_any F)
        clear hbl
        go_wp2_with fail
        refine (HM.out _).mono ?_
        rintro e w2 ⟨rfl, hb⟩
        have HL1 := hid (HL.out.trans (hb.mono HL.out.size))
        clear hb
        rw [HR.out]
        go_wp2_with fail
        go_ret2
        exact ⟨rfl, HL1.out⟩
end Go.Proofs.YtcmpiffkmnbepaaDoor
