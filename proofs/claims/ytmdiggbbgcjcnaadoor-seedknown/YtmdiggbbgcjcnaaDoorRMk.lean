/- Names, texts and tuples, as the document makes them. -/
import Derived.Test.YtmdiggbbgcjcnaaDoorMk
import Derived.Test.YtmdiggbbgcjcnaaDoorRMade
namespace Go.Proofs.YtmdiggbbgcjcnaaDoor
open Go.RowKit

theorem dec_small {n : Nat} (h : n < 10) : dec n = [UInt8.ofNat (48 + n % 10)] := by rw [dec, Lib.decDigits_one h, Nat.mod_eq_of_lt h]
theorem dec_big {n : Nat} (h : ¬ n < 10) : dec n = dec (n / 10) ++ [UInt8.ofNat (48 + n % 10)] := by rw [dec, Lib.decDigits, dif_neg h]
theorem conv_digit (n : Nat) (w : World) : (convert 67 9 (.slice (some ⟨w.heap.size, 0, none⟩) 1 1)).run Tryd.prog (w.alloc (.cells #[.int .u8 (48 + (n : Int) % 10)] 5)) = .ok (St [UInt8.ofNat (48 + n % 10)]) (w.alloc (.cells #[.int .u8 (48 + (n : Int) % 10)] 5)) := by
  refine run_convert_bytes_back (P := Tryd.prog) _ 67 9 5 ⟨w.heap.size, 0, none⟩ 1 [UInt8.ofNat (48 + n % 10)] Tryd.underlying67 Tryd.underlying5 Tryd.underlying9 (fun j hj => ?_)
  obtain rfl : j = 0 := by simpa using hj
  have e : (⟨w.heap.size, 0, none⟩ : Addr).add 0 = ⟨w.heap.size, 0, none⟩ := by simp [Addr.add]
  rw [e, World.cell?_alloc_mark]
  have h2 : ((UInt8.ofNat (48 + n % 10)).toNat : Int) = 48 + (n : Int) % 10 := by simp; omega
  simp only [List.getElem_cons_zero]
  rw [h2]
  rfl

set_option maxHeartbeats 2000000 in
theorem rdig_any (n : Nat) : n < 18446744073709551616 → ∀ w : World, Calls Tryd.prog 47 #[.int .u64 (n : Int)] w fun en w' => en = .returned (St (dec n)) ∧ Below w.heap.size w w' := by
  induction n using Nat.strongRecOn with
  | ind n ih =>
    intro hn w
    have hcv := conv_digit n w
    have hw1 : IntKind.u64.wrap (48 + (n : Int) % 10) = 48 + (n : Int) % 10 := by rw [IntKind.wrap_u64]; omega
    have hw2 : IntKind.u8.wrap (48 + (n : Int) % 10) = 48 + (n : Int) % 10 := by rw [IntKind.wrap_u8]; omega
    by_cases h9 : n < 10
    · have h9' : ¬ (9 : Int) < (n : Int) := by omega
      have HD := hid (dec_small h9)
      clear ih hn h9
      generalize UInt8.ofNat (48 + n % 10) = c at HD hcv
      go_enter Tryd.func47, Tryd.ntmps47
      go_wp2_with fail
      go_ret
      exact ⟨by rw [HD.out]; rfl, (Below.refl _ _).alloc (Nat.le_refl _) _⟩
    · have h9' : (9 : Int) < (n : Int) := by omega
      have HD := hid (dec_big h9)
      have HI : Hid (∀ W : World, Calls Tryd.prog 47 #[.int .u64 ((n : Int) / 10)] W fun en w' => en = .returned (St (dec (n / 10))) ∧ Below W.heap.size W w') := hid (ih (n / 10) (by omega) (by omega))
      have HL := hid (dec_len (n / 10) (by omega))
      have hw3 : IntKind.u64.wrap ((n : Int) / 10) = (n : Int) / 10 := by rw [IntKind.wrap_u64]; omega
      clear ih hn h9
      generalize dec (n / 10) = D at HD HI HL
      generalize UInt8.ofNat (48 + n % 10) = c at HD hcv
      have hsz : (⟨D.toArray⟩ : ByteArray).size ≤ 20 := by rw [st_size]; exact HL.out
      have ha : ∀ W, (Op.stringOp .add (⟨D.toArray⟩ : ByteArray) ⟨([c] : Bs).toArray⟩).run Tryd.prog W = .ok (.string ⟨(D ++ [c]).toArray⟩) W := fun W => by
        rw [run_string_add_sum W _ _ (by show (⟨D.toArray⟩ : ByteArray).size + 1 ≤ _; omega), st_app]
      go_enter Tryd.func47, Tryd.ntmps47
      go_wp2_with fail
      refine (HI.out _).mono ?_
      rintro e w1 ⟨rfl, hb⟩
      have HB := hid (((Below.refl w.heap.size w).alloc (Nat.le_refl _) _).trans (hb.mono (by simp)))
      clear hb
      go_wp2_with fail
      go_ret
      exact ⟨by rw [HD.out]; rfl, HB.out⟩

theorem bres_none (op : UInt8) (head : Bs) (h : head.length ≤ 16000) : bRes op head [] = (op :: head, 0) := by
  unfold bRes; simp [bDeep, bSize]; omega

set_option maxHeartbeats 1000000 in
theorem rtext_any (s : Bs) (w : World) (hs : s.length ≤ 20000) : Calls Tryd.prog 35 #[St s] w fun en w' => en = made (textRes s) ∧ Below w.heap.size w w' := by
  have hsz0 : (⟨s.toArray⟩ : ByteArray).size = s.length := st_size s
  by_cases h0 : 4096 < s.length
  · have HR : Hid (textRes s = ([], 3)) := by apply hid; unfold textRes; rw [if_pos h0]
    have h0' : (4096 : Int) < (s.length : Int) := by omega
    go_enter Tryd.func35, Tryd.ntmps35
    go_wp2_with fail
    go_ret2
    exact ⟨by rw [HR.out]; rfl, Below.refl _ _⟩
  · have h0' : ¬ (4096 : Int) < (s.length : Int) := by omega
    have HD := hid (dec_len s.length (by omega))
    have HR : Hid (textRes s = (116 :: (dec s.length ++ 58 :: s), 0)) := by
      apply hid; unfold textRes; rw [if_neg h0, bres_none _ _ (by have := HD.out; simp; omega), List.append_assoc]; rfl
    have HF : Hid (∀ W : World, Calls Tryd.prog 47 #[.int .u64 (s.length : Int)] W fun e w' => e = .returned (St (dec s.length)) ∧ Below W.heap.size W w') := hid (rdig_any s.length (by omega))
    have hw : IntKind.u64.wrap (s.length : Int) = (s.length : Int) := by rw [IntKind.wrap_u64]; omega
    have HS := hid h0
    clear h0 hs
    generalize dec s.length = D at HR HD HF
    have ha1 : ∀ W, (Op.stringOp .add (⟨#[116]⟩ : ByteArray) ⟨D.toArray⟩).run Tryd.prog W = .ok (.string ⟨(116 :: D).toArray⟩) W := fun W => by
      rw [run_string_add_sum W _ _ (by rw [st_size]; have := HD.out; show 1 + D.length ≤ _; omega)]; exact congrArg (fun z => Result.ok (Value.string z) W) (st_app [116] D)
    have ha2 : ∀ W, (Op.stringOp .add (⟨(116 :: D).toArray⟩ : ByteArray) ⟨#[58]⟩).run Tryd.prog W = .ok (.string ⟨(116 :: (D ++ [58])).toArray⟩) W := fun W => by
      rw [run_string_add_sum W _ _ (by rw [st_size]; have := HD.out; show (D.length + 1) + 1 ≤ _; omega)]; exact congrArg (fun z => Result.ok (Value.string z) W) (st_app (116 :: D) [58])
    have ha3 : ∀ W, (Op.stringOp .add (⟨(116 :: (D ++ [58])).toArray⟩ : ByteArray) ⟨s.toArray⟩).run Tryd.prog W = .ok (.string ⟨(116 :: (D ++ 58 :: s)).toArray⟩) W := fun W => by
      rw [run_string_add_sum W _ _ (by rw [st_size, st_size]; have := HD.out; have := HS.out; simp; omega)]; exact congrArg (fun z => Result.ok (Value.string z) W) ((st_app (116 :: (D ++ [58])) s).trans (by simp))
    go_enter Tryd.func35, Tryd.ntmps35
    go_wp2_with fail
    refine (HF.out _).mono ?_
    rintro e w1 ⟨rfl, hb⟩
    have HB := hid hb
    clear hb
    go_wp2_with fail
    go_ret2
    exact ⟨by rw [HR.out]; rfl, HB.out⟩
end Go.Proofs.YtmdiggbbgcjcnaaDoor
