/- Names, texts and tuples of any length, as the program makes them. -/
import Derived.Test.YtkifchjpgdmcoaaDoorFace
import Derived.Test.YtkifchjpgdmcoaaDoorFmt
import Derived.Test.YtkifchjpgdmcoaaDoorMkMath
namespace Go.Proofs.YtkifchjpgdmcoaaDoor
open Go.RowKit

theorem texts_below {w w' : World} {kv : Value} {ks : List Bs} (h : Texts w kv ks) (hb : Below w.heap.size w w') : Texts w' kv ks := by
  obtain ⟨ao, cap, e, h1⟩ := h
  refine ⟨ao, cap, e, fun hne => ?_⟩
  obtain ⟨g, o, e2, hlt, hc⟩ := h1 hne
  exact ⟨g, o, e2, Nat.lt_of_lt_of_le hlt hb.size, fun i hi => (hb.cell (p := ⟨g, o + i, none⟩) hlt).trans (hc i hi)⟩
/-- what a name's maker answers -/
def nameRes (n : Int) : Bs × Nat := if n < 0 then ([], 2) else bRes 110 (dec n.toNat ++ [59]) []
def textRes (s : Bs) : Bs × Nat := if 4096 < s.length then ([], 3) else bRes 116 (dec s.length ++ [58] ++ s) []
def tupRes (ks : List Bs) : Bs × Nat := if 32 < ks.length then ([], 3) else bRes 84 (dec ks.length ++ [58]) ks

set_option maxHeartbeats 1000000 in
theorem mkname_any (n : Int) (hn : n ≤ 9223372036854775807) (w : World) (hp : Pw w) : Calls Tryd.prog 44 #[.int .i64 n] w fun en w' => en = made (nameRes n) ∧ Below w.heap.size w w' := by
  by_cases h0 : n < 0
  · have HR : Hid (nameRes n = ([], 2)) := by apply hid; unfold nameRes; rw [if_pos h0]
    go_enter Tryd.func44, Tryd.ntmps44
    go_wp2_with fail
    go_ret2
    exact ⟨by rw [HR.out]; rfl, Below.refl _ _⟩
  · obtain ⟨m, rfl⟩ : ∃ m : Nat, n = (m : Int) := ⟨n.toNat, by omega⟩
    have HR : Hid (nameRes (m : Int) = bRes 110 (dec m ++ [59]) []) := by apply hid; unfold nameRes; rw [if_neg h0]; simp
    have HP := hid hp
    have HD := hid (dec_len m (by omega))
    have HF : Hid (∀ W, Pw W → Calls Tryd.prog 48 #[.int .i64 (m : Int), .int .i64 10] W fun e w' => e = .returned (St (dec m)) ∧ Below W.heap.size W w') := hid (fun W h => format_any m (by omega) W h)
    clear hp hn
    generalize dec m = D at HR HD HF
    have hDs : (⟨D.toArray⟩ : ByteArray).size ≤ 20 := by rw [st_size]; exact HD.out
    go_enter Tryd.func44, Tryd.ntmps44
    go_wp2_with fail
    refine (HF.out _ HP.out).mono ?_
    rintro e w1 ⟨rfl, hb1⟩
    have HB1 := hid hb1
    clear hb1
    have ha1 : ∀ W, (Op.stringOp .add (⟨D.toArray⟩ : ByteArray) ⟨#[59]⟩).run Tryd.prog W = .ok (.string ⟨(D ++ [59]).toArray⟩) W := fun W => by
      rw [run_string_add_sum W _ _ (by show (⟨D.toArray⟩ : ByteArray).size + 1 ≤ _; omega)]; exact congrArg (fun z => Result.ok (Value.string z) W) (st_app D [59])
    go_wp2_with fail
    refine (build_any 110 (D ++ [59]) [] _ _ (texts_nil _) (by have := HD.out; simp; omega) (by simp)).mono ?_
    rintro e w2 ⟨rfl, hb⟩
    have HB := hid (HB1.out.trans (hb.mono HB1.out.size))
    clear hb
    go_wp2_with fail
    go_ret2
    exact ⟨by rw [HR.out]; rfl, HB.out⟩

set_option maxHeartbeats 1000000 in
theorem mktext_any (s : Bs) (w : World) (hs : s.length ≤ 20000) (hp : Pw w) : Calls Tryd.prog 47 #[St s] w fun en w' => en = made (textRes s) ∧ Below w.heap.size w w' := by
  have hsz : (⟨s.toArray⟩ : ByteArray).size = s.length := st_size s
  by_cases h0 : 4096 < s.length
  · have HR : Hid (textRes s = ([], 3)) := by apply hid; unfold textRes; rw [if_pos h0]
    have h0' : (4096 : Int) < (s.length : Int) := by omega
    go_enter Tryd.func47, Tryd.ntmps47
    go_wp2_with fail
    go_ret2
    exact ⟨by rw [HR.out]; rfl, Below.refl _ _⟩
  · have HR : Hid (textRes s = bRes 116 (dec s.length ++ 58 :: s) []) := by apply hid; unfold textRes; rw [if_neg h0, List.append_assoc]; rfl
    have h0' : ¬ (4096 : Int) < (s.length : Int) := by omega
    have HP := hid hp
    have HD := hid (dec_len s.length (by omega))
    have HF : Hid (∀ W, Pw W → Calls Tryd.prog 67 #[.int .i64 (s.length : Int)] W fun e w' => e = .returned (St (dec s.length)) ∧ Below W.heap.size W w') := hid (fun W h => itoa_any s.length (by omega) W h)
    have HS := hid h0
    clear hp hs h0
    generalize dec s.length = D at HR HD HF
    have hDs : (⟨D.toArray⟩ : ByteArray).size ≤ 20 := by rw [st_size]; exact HD.out
    go_enter Tryd.func47, Tryd.ntmps47
    go_wp2_with fail
    refine (HF.out _ HP.out).mono ?_
    rintro e w1 ⟨rfl, hb1⟩
    have HB1 := hid hb1
    clear hb1
    have hsum : (⟨D.toArray⟩ : ByteArray).size + 1 + s.length ≤ 9000 := by have := HS.out; omega
    have ha1 : ∀ W, (Op.stringOp .add (⟨D.toArray⟩ : ByteArray) ⟨#[58]⟩).run Tryd.prog W = .ok (.string ⟨(D ++ [58]).toArray⟩) W := fun W => by
      rw [run_string_add_sum W _ _ (by show (⟨D.toArray⟩ : ByteArray).size + 1 ≤ _; omega)]; exact congrArg (fun z => Result.ok (Value.string z) W) (st_app D [58])
    have ha2 : ∀ W, (Op.stringOp .add (⟨(D ++ [58]).toArray⟩ : ByteArray) ⟨s.toArray⟩).run Tryd.prog W = .ok (.string ⟨(D ++ [58] ++ s).toArray⟩) W := fun W => by
      rw [run_string_add_sum W _ _ (by rw [st_size, st_size, List.length_append]; rw [st_size] at hsum; simp; omega)]; exact congrArg (fun z => Result.ok (Value.string z) W) (st_app (D ++ [58]) s)
    clear hsum
    go_wp2_with fail
    refine (build_any 116 (D ++ 58 :: s) [] _ _ (texts_nil _) (by have := HD.out; have := HS.out; simp; omega) (by simp)).mono ?_
    rintro e w2 ⟨rfl, hb⟩
    have HB := hid (HB1.out.trans (hb.mono HB1.out.size))
    clear hb
    go_wp2_with fail
    go_ret2
    exact ⟨by rw [HR.out]; rfl, HB.out⟩

set_option maxHeartbeats 1000000 in
theorem mktuple_any (ks : List Bs) (kv : Value) (w : World) (hk : Texts w kv ks) (hn : ks.length ≤ 40) (hp : Pw w) : Calls Tryd.prog 49 #[kv] w fun en w' => en = made (tupRes ks) ∧ Below w.heap.size w w' := by
  have HK := hid hk
  obtain ⟨ao, cap, rfl, _⟩ := hk
  by_cases h0 : 32 < ks.length
  · have HR : Hid (tupRes ks = ([], 3)) := by apply hid; unfold tupRes; rw [if_pos h0]
    have h0' : (32 : Int) < (ks.length : Int) := by omega
    go_enter Tryd.func49, Tryd.ntmps49
    go_wp2_with fail
    go_ret2
    exact ⟨by rw [HR.out]; rfl, Below.refl _ _⟩
  · have HR : Hid (tupRes ks = bRes 84 (dec ks.length ++ [58]) ks) := by apply hid; unfold tupRes; rw [if_neg h0]
    have h0' : ¬ (32 : Int) < (ks.length : Int) := by omega
    have HP := hid hp
    have HD := hid (dec_len ks.length (by omega))
    have HF : Hid (∀ W, Pw W → Calls Tryd.prog 67 #[.int .i64 (ks.length : Int)] W fun e w' => e = .returned (St (dec ks.length)) ∧ Below W.heap.size W w') := hid (fun W h => itoa_any ks.length (by omega) W h)
    have HN := hid hn
    clear hp hn h0
    generalize dec ks.length = D at HR HD HF
    have hDs : (⟨D.toArray⟩ : ByteArray).size ≤ 20 := by rw [st_size]; exact HD.out
    go_enter Tryd.func49, Tryd.ntmps49
    go_wp2_with fail
    refine (HF.out _ HP.out).mono ?_
    rintro e w1 ⟨rfl, hb1⟩
    have HB1 := hid hb1
    have HK1 := hid (texts_below HK.out hb1)
    clear hb1
    have ha1 : ∀ W, (Op.stringOp .add (⟨D.toArray⟩ : ByteArray) ⟨#[58]⟩).run Tryd.prog W = .ok (.string ⟨(D ++ [58]).toArray⟩) W := fun W => by
      rw [run_string_add_sum W _ _ (by show (⟨D.toArray⟩ : ByteArray).size + 1 ≤ _; omega)]; exact congrArg (fun z => Result.ok (Value.string z) W) (st_app D [58])
    go_wp2_with fail
    refine (build_any 84 (D ++ [58]) ks _ _ HK1.out (by have := HD.out; simp; omega) HN.out).mono ?_
    rintro e w2 ⟨rfl, hb⟩
    have HB := hid (HB1.out.trans (hb.mono HB1.out.size))
    clear hb
    go_wp2_with fail
    go_ret2
    exact ⟨by rw [HR.out]; rfl, HB.out⟩
end Go.Proofs.YtkifchjpgdmcoaaDoor
