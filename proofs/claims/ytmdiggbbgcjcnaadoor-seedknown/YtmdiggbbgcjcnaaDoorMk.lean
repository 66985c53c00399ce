/- Names, texts and tuples of any length, as the program makes them. -/
import Derived.Test.YtmdiggbbgcjcnaaDoorFace
import Derived.Test.YtmdiggbbgcjcnaaDoorFmt
import Derived.Test.YtmdiggbbgcjcnaaDoorMkMath
namespace Go.Proofs.YtmdiggbbgcjcnaaDoor
open Go.RowKit

theorem texts_below {w w' : World} {kv : Value} {ks : List Bs} (h : Texts w kv ks) (hb : Below w.heap.size w w') : Texts w' kv ks := by
  obtain ⟨ao, cap, e, h1⟩ := h
  refine ⟨ao, cap, e, fun hne => ?_⟩
  obtain ⟨g, o, e2, hlt, hc⟩ := h1 hne
  exact ⟨g, o, e2, Nat.lt_of_lt_of_le hlt hb.size, fun i hi => (hb.cell (p := ⟨g, o + i, none⟩) hlt).trans (hc i hi)⟩
def textRes (s : Bs) : Bs × Nat := if 4096 < s.length then ([], 3) else bRes 116 (dec s.length ++ [58] ++ s) []
set_option maxHeartbeats 1000000 in
theorem mktext_any (s : Bs) (w : World) (hs : s.length ≤ 20000) (hp : Pw w) : Calls Tryd.prog 39 #[St s] w fun en w' => en = made (textRes s) ∧ Below w.heap.size w w' := by
  have hsz : (⟨s.toArray⟩ : ByteArray).size = s.length := st_size s
  by_cases h0 : 4096 < s.length
  · have HR : Hid (textRes s = ([], 3)) := by apply hid; unfold textRes; rw [if_pos h0]
    have h0' : (4096 : Int) < (s.length : Int) := by omega
    go_enter Tryd.func39, Tryd.ntmps39
    go_wp2_with fail
    go_ret2
    exact ⟨by rw [HR.out]; rfl, Below.refl _ _⟩
  · have HR : Hid (textRes s = bRes 116 (dec s.length ++ 58 :: s) []) := by apply hid; unfold textRes; rw [if_neg h0, List.append_assoc]; rfl
    have h0' : ¬ (4096 : Int) < (s.length : Int) := by omega
    have HP := hid hp
    have HD := hid (dec_len s.length (by omega))
    have HF : Hid (∀ W, Pw W → Calls Tryd.prog 40 #[.int .i64 (s.length : Int)] W fun e w' => e = .returned (St (dec s.length)) ∧ Below W.heap.size W w') := hid (fun W h => itoa_any s.length (by omega) W h)
    have HS := hid h0
    clear hp hs h0
    generalize dec s.length = D at HR HD HF
    have hDs : (⟨D.toArray⟩ : ByteArray).size ≤ 20 := by rw [st_size]; exact HD.out
    go_enter Tryd.func39, Tryd.ntmps39
    go_wp2_with fail
    refine (HF.out _ HP.out).mono ?_
    rintro e w1 ⟨rfl, hb1⟩
    have HB1 := hid hb1
    clear hb1
    have hsum : (⟨D.toArray⟩ : ByteArray).size + 1 + s.length ≤ 9000 := by have := HS.out; omega
    have ha1 : ∀ W, (Op.stringOp .add (⟨D.toArray⟩ : ByteArray) ⟨#[58]⟩).run Tryd.prog W = .ok (.string ⟨(D ++ [58]).toArray⟩) W := fun W => by
      rw [run_string_add_sum W _ _ (by show (⟨D.toArray⟩ : ByteArray).size + 1 ≤ _; omega)]; exact congrArg (fun z => Result.ok (Value.string z) W) (st_app D [58])
    have ha2 : ∀ W, (Op.stringOp .add (⟨(D ++ [58]).toArray⟩ : ByteArray) ⟨s.toArray⟩).run Tryd.prog W = .ok (.string ⟨(D ++ [58] ++ s).toArray⟩) W := fun W => by
      rw [run_string_add_sum W _ _ (by rw [st_size, st_size, List.length_append]; rw [st_size] at hsum; simp; omega)]; exact congrArg (fun z => Result.ok (Value.string z) W) (st_app (D ++ [58]) s)
    clear hsum
    go_wp2_with fail
    refine (build_any 116 (D ++ 58 :: s) [] _ _ (texts_nil _) (by have := HD.out; have := HS.out; simp; omega) (by simp)).mono ?_
    rintro e w2 ⟨rfl, hb⟩
    have HB := hid (HB1.out.trans (hb.mono HB1.out.size))
    clear hb
    go_wp2_with fail
    go_ret2
    exact ⟨by rw [HR.out]; rfl, HB.out⟩

end Go.Proofs.YtmdiggbbgcjcnaaDoor
