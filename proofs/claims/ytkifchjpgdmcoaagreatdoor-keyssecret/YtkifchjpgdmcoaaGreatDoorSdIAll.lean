import Derived.Test.YtkifchjpgdmcoaaGreatDoorSdAll
import Derived.Test.YtkifchjpgdmcoaaGreatDoorRMkAll
import Derived.Test.YtkifchjpgdmcoaaGreatDoorRAskAll
/- A secret from one on, as the document makes it. -/
namespace Go.Proofs.YtkifchjpgdmcoaaGreatDoor
open Go.RowKit
theorem rstep_any (x : Bs) (b : Nat) (w : World) : Calls Tryz.prog 71 #[.int .u8 68, St x, St (lab b)] w fun en w' => en = made (stp x b) ∧ Below w.heap.size w w' := by
 have := rtwo_any 68 x (lab b) w
 rwa [twoRes_two rfl] at this
theorem rlab_any (b : Nat) (hb : b < 100) (w : World) : Calls Tryz.prog 87 #[St (dec b)] w fun en w' => en = made (lab b, 0) ∧ Below w.heap.size w w' := by
 have := rtext_any (dec b) w (by have := dec_len b (by omega); omega)
 rwa [lab_is hb] at this
theorem dec_ten {b : Nat} (h1 : 10 ≤ b) (h2 : b < 20) : dec b = 49 :: [UInt8.ofNat (48 + b % 10)] := by
 rw [dec_big (by omega), dec_small (show b / 10 < 10 by omega)]
 have : b / 10 = 1 := by omega
 rw [this]; rfl
set_option maxHeartbeats 4000000 in
set_option maxRecDepth 100000 in
theorem on_any (x0 : Bs) (k0 : Nat) (hk : k0 ≤ 20) (i : Nat) (hi : i < 9223372036854775808) (w : World) :
   Calls Tryz.prog 92 #[St x0, .int .i64 (i : Int), .int .i64 (k0 : Int)] w fun en w' => en = made (Sd.fr stp k0 i x0) ∧ Below w.heap.size w w' := by
 have HI := hid hi
 have HK := hid hk
 have hkw : IntKind.i64.wrap ((k0 : Int) - 1) = (k0 : Int) - 1 := by rw [IntKind.wrap_i64]; omega
 obtain ⟨F, hF⟩ : ∃ F, F = Sd.fr stp k0 i x0 := ⟨_, rfl⟩
 have HF := hid hF
 rw [← hF]
 clear hi hk hF
 go_enter Tryz.func92, Tryz.ntmps92
 go_wp2_with fail
 go_loopg [0, 8, 9, 10, 11, 12, 13] k0 (fun gg v0 v8 v9 v10 v11 v12 v13 wr => ∃ (k : Nat) (x : Bs), k ≤ 20 ∧ gg = k ∧ v8 = .int .i64 ((k : Int) - 1) ∧ v0 = St x ∧ Hid (F = Sd.fr stp k i x) ∧ Below w.heap.size w wr)
 case atStart => exact ⟨k0, x0, HK.out, rfl, rfl, rfl, HF, Below.refl _ _⟩
 case round =>
   obtain ⟨k, x, hk20, hgk, rfl, rfl, hfr, hbel⟩ := hrel
   subst hgk
   cases gk with
   | zero =>
     have HFR : Hid (F = (x, 0)) := hfr
     have HB := hid hbel
     clear hbel hfr
     go_wp2_with fail
     go_ret2
     exact ⟨by rw [HFR.out]; rfl, HB.out⟩
   | succ k =>
     have HB := hid hbel
     have HKK : Hid (k < 20) := hid (by omega)
     have hk0 : (0 : Int) ≤ (k : Int) := Int.natCast_nonneg _
     have hk64 : (k : Int) ≤ 64 := by omega
     have e1 : ((k + 1 : Nat) : Int) - 1 = (k : Int) := by omega
     have hw1 : IntKind.i64.wrap ((k : Int) - 1) = (k : Int) - 1 := by rw [IntKind.wrap_i64]; omega
     have hbit := bit_int i k HI.out
     rw [e1]
     clear e1 hbel hk20 HK
     cases hb : i.testBit k with
     | false =>
       rw [hb] at hbit
       have HFR : Hid (F = Sd.fr stp k i x) := hid (by have := hfr.out; rw [Sd.fr, hb] at this; exact this)
       have hbit0 : bits .and .i64 ((i : Int) / 2 ^ k) 1 = 0 := hbit
       clear hb hbit hfr
       go_wp2_with fail
       go_roundg k
       case measure => omega
       case rel => exact ⟨k, x, by have := HKK.out; omega, rfl, rfl, rfl, HFR, HB.out⟩
     | true =>
       rw [hb] at hbit
       have hbit0 : bits .and .i64 ((i : Int) / 2 ^ k) 1 = 1 := hbit
       have HC : Hid (∀ W, Calls Tryz.prog 71 #[.int .u8 68, St x, St (lab k)] W fun en w' => en = made (stp x k) ∧ Below W.heap.size W w') := hid (rstep_any x k)
       have HLB : Hid (∀ W, Calls Tryz.prog 87 #[St (dec k)] W fun en w' => en = made (lab k, 0) ∧ Below W.heap.size W w') := hid (rlab_any k (by omega))
       have HFR : Hid (F = if (stp x k).2 = 0 then Sd.fr stp k i (stp x k).1 else ([], (stp x k).2)) := hid (by have := hfr.out; rw [Sd.fr, hb] at this; exact this)
       have hcv := conv_digit k wr
       have hrem : (k : Int).tmod 10 = (k : Int) % 10 := by rw [Int.tmod_eq_emod_of_nonneg hk0]
       have hwa : IntKind.i64.wrap (48 + (k : Int) % 10) = 48 + (k : Int) % 10 := by rw [IntKind.wrap_i64]; omega
       have hwb : IntKind.u8.wrap (48 + (k : Int) % 10) = 48 + (k : Int) % 10 := by rw [IntKind.wrap_u8]; omega
       clear hb hbit hfr
       by_cases h9 : 9 < k
       · have h9' : (9 : Int) < (k : Int) := by omega
         have HD : Hid (dec k = 49 :: [UInt8.ofNat (48 + k % 10)]) := hid (dec_ten h9 HKK.out)
         generalize UInt8.ofNat (48 + k % 10) = c at HD hcv
         have ha : ∀ W, (Op.stringOp .add (⟨#[49]⟩ : ByteArray) ⟨([c] : Bs).toArray⟩).run Tryz.prog W = .ok (.string ⟨((49 : UInt8) :: [c]).toArray⟩) W := fun W => by
           rw [run_string_add_sum W _ _ (by show 1 + 1 ≤ _; omega)]; exact congrArg (fun z => Result.ok (Value.string z) W) (st_app [49] [c])
         clear h9
         go_wp2_with fail
         rw [← HD.out]
         refine (HLB.out _).mono ?_
         rintro e w1 ⟨rfl, hb1⟩
         have HB1 := hid (HB.out.trans ((below_alloc_self' wr _).mono HB.out.size |>.trans (hb1.mono (by have := HB.out.size; simp; omega))))
         clear hb1
         generalize lab k = L at HC ⊢
         go_wp2_with fail
         refine (HC.out _).mono ?_
         rintro e w2 ⟨rfl, hb2⟩
         have HB2 := hid (HB1.out.trans (hb2.mono HB1.out.size))
         clear hb2 HC
         generalize stp x k = yq at HFR ⊢
         obtain ⟨y, q⟩ := yq
         by_cases hq : q = 0
         · subst hq
           go_wp2_with fail
           go_roundg k
           case measure => omega
           case rel => exact ⟨k, y, by have := HKK.out; omega, rfl, rfl, rfl, HFR, HB2.out⟩
         · have hq' : ((q : Int) == 0) = false := by simp; omega
           have hq2 : (q : Int) ≠ 0 := by omega
           have HFR2 : Hid (F = ([], q)) := hid (by have := HFR.out; simp only [hq, if_false] at this; exact this)
           clear hq
           go_wp2_with fail
           go_ret2
           exact ⟨by rw [HFR2.out]; rfl, HB2.out⟩
       · have h9' : ¬ (9 : Int) < (k : Int) := by omega
         have HD : Hid (dec k = [UInt8.ofNat (48 + k % 10)]) := hid (dec_small (by omega))
         generalize UInt8.ofNat (48 + k % 10) = c at HD hcv
         clear h9
         go_wp2_with fail
         rw [← HD.out]
         refine (HLB.out _).mono ?_
         rintro e w1 ⟨rfl, hb1⟩
         have HB1 := hid (HB.out.trans ((below_alloc_self' wr _).mono HB.out.size |>.trans (hb1.mono (by have := HB.out.size; simp; omega))))
         clear hb1
         generalize lab k = L at HC ⊢
         go_wp2_with fail
         refine (HC.out _).mono ?_
         rintro e w2 ⟨rfl, hb2⟩
         have HB2 := hid (HB1.out.trans (hb2.mono HB1.out.size))
         clear hb2 HC
         generalize stp x k = yq at HFR ⊢
         obtain ⟨y, q⟩ := yq
         by_cases hq : q = 0
         · subst hq
           go_wp2_with fail
           go_roundg k
           case measure => omega
           case rel => exact ⟨k, y, by have := HKK.out; omega, rfl, rfl, rfl, HFR, HB2.out⟩
         · have hq' : ((q : Int) == 0) = false := by simp; omega
           have hq2 : (q : Int) ≠ 0 := by omega
           have HFR2 : Hid (F = ([], q)) := hid (by have := HFR.out; simp only [hq, if_false] at this; exact this)
           clear hq
           go_wp2_with fail
           go_ret2
           exact ⟨by rw [HFR2.out]; rfl, HB2.out⟩
end Go.Proofs.YtkifchjpgdmcoaaGreatDoor

/- A seed's secret, as the document makes it. -/
namespace Go.Proofs.YtkifchjpgdmcoaaGreatDoor
open Go.RowKit
set_option maxHeartbeats 1000000 in
set_option maxRecDepth 100000 in
theorem rsecret_any (s : Bs) (i : Int) (w : World) : Calls Tryz.prog 67 #[St s, .int .i64 i] w fun en w' => en = made (secRes s i) ∧ Below w.heap.size w w' := by
 by_cases h0 : i < 0
 · have HR : Hid (secRes s i = ([], 2)) := hid (by unfold secRes; rw [if_pos (Or.inl h0)])
   go_enter Tryz.func67, Tryz.ntmps67
   go_wp2_with fail
   go_ret2
   exact ⟨by rw [HR.out]; rfl, Below.refl _ _⟩
 · by_cases h1 : 1048575 < i
   · have HR : Hid (secRes s i = ([], 2)) := hid (by unfold secRes; rw [if_pos (Or.inr h1)])
     go_enter Tryz.func67, Tryz.ntmps67
     go_wp2_with fail
     go_ret2
     exact ⟨by rw [HR.out]; rfl, Below.refl _ _⟩
   · obtain ⟨n, rfl⟩ : ∃ n : Nat, i = (n : Int) := ⟨i.toNat, by omega⟩
     by_cases hd : Tm.deep s = 0
     · have HR : Hid (secRes s n = ([], 10)) := hid (by unfold secRes; rw [if_neg (by omega), if_pos hd])
       have HD := hid hd
       clear hd
       go_enter Tryz.func67, Tryz.ntmps67
       go_wp2_with fail
       refine (rright_any s w).mono ?_
       rintro e w1 ⟨rfl, hb⟩
       have HB := hid hb
       clear hb
       rw [HD.out]
       go_wp2_with fail
       go_ret2
       exact ⟨by rw [HR.out]; rfl, HB.out⟩
     · have HR : Hid (secRes s n = Sd.fr stp 20 n s) := hid (by unfold secRes; rw [if_neg (by omega), if_neg hd]; simp)
       have HD : Hid ((Tm.deep s != 0) = true) := hid (by simpa using hd)
       have HN : Hid (n < 9223372036854775808) := hid (by omega)
       clear hd
       go_enter Tryz.func67, Tryz.ntmps67
       go_wp2_with fail
       refine (rright_any s w).mono ?_
       rintro e w1 ⟨rfl, hb⟩
       have HB := hid hb
       clear hb
       rw [HD.out]
       go_wp2_with fail
       refine (on_any s 20 (by omega) n HN.out w1).mono ?_
       rintro e w3 ⟨rfl, hb⟩
       have HB3 := hid (HB.out.trans (hb.mono HB.out.size))
       clear hb
       generalize Sd.fr stp 20 n s = R at HR
       go_wp2_with fail
       go_ret2
       exact ⟨by rw [HR.out]; rfl, HB3.out⟩
end Go.Proofs.YtkifchjpgdmcoaaGreatDoor
