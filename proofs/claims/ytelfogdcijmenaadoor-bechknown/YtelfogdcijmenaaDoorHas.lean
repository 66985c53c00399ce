/- Whether one of the bytes of a row is such a one. -/
import Derived.Test.YtelfogdcijmenaaDoorFrame
namespace Go.Proofs.YtelfogdcijmenaaDoor
open Go.RowKit

theorem any_take_succ (p : UInt8 → Bool) (l : Bs) (k : Nat) (h : k < l.length) : (l.take (k + 1)).any p = ((l.take k).any p || p l[k]) := by
  have e : l.take (k + 1) = l.take k ++ [l[k]] := by rw [List.take_add_one, List.getElem?_eq_getElem h]; rfl
  rw [e, List.any_append]
  simp
theorem any_of_take {p : UInt8 → Bool} {l : Bs} {k : Nat} (h : (l.take k).any p = true) : l.any p = true := by
  rw [← List.take_append_drop k l, List.any_append, h, Bool.true_or]
/-- a byte of a text -/
theorem st_get (s : Bs) (k : Nat) (_h : k < s.length) (h' : k < (⟨s.toArray⟩ : ByteArray).size) : (⟨s.toArray⟩ : ByteArray)[k] = s[k] := rfl
/-- a function that tells of a byte whether it is such a one, at a world -/
def Tells (g : Nat) (lb : Array Value) (p : UInt8 → Bool) (w : World) : Prop :=
  ∀ c, Calls Tryd.prog g (#[By c] ++ lb) w fun e w' => e = .returned (.bool (p c)) ∧ w' = w
set_option maxRecDepth 100000 in
set_option maxHeartbeats 1000000 in
theorem has_str (s : Bs) (p : UInt8 → Bool) (g : Nat) (lb : Array Value) (w : World) (hm : s.length ≤ 140737488355328)
    (eg : ∀ args w, (callFunc g args).run Tryd.prog w = .ok (.enter g args) w) (hp : Tells g lb p w) :
    Calls Tryd.prog 19 #[St s, .func (.func g) #[] lb] w fun e w' => e = .returned (.bool (s.any p)) ∧ w' = w := by
  have HP := hid hp
  clear hp
  have hs := st_size s
  obtain ⟨n, hn⟩ : ∃ n, n = s.length := ⟨_, rfl⟩
  rw [← hn] at hs hm
  have HN := hid hn
  clear hn
  go_enter Tryd.func19, Tryd.ntmps19
  go_wp2_with fail
  go_loop [5, 8] (fun v5 v8 => ∃ k : Nat, k ≤ n ∧ v8 = .int .i64 (k : Int) ∧ Hid ((s.take k).any p = false)) (fun _ v8 => n - (intOf v8).toNat)
  case atStart => exact ⟨0, by omega, rfl, hid rfl⟩
  case round =>
    obtain ⟨k, hk, rfl, hf⟩ := hrel
    by_cases hkn : k < n
    · have hk1 : (k : Int) < (n : Int) := by omega
      have hks : k < s.length := by rw [← HN.out]; exact hkn
      have HT := hid (any_take_succ p s k hks)
      go_wp2_with fail
      refine (HP.out _).mono ?_
      rintro e w1 ⟨rfl, rfl⟩
      rw [st_get s k hks]
      generalize hb : p s[k] = b at *
      have HB := hid hb
      clear hb
      rw [hf.out, Bool.false_or] at HT
      cases b with
      | true =>
        go_wp2_with fail
        go_ret
        exact ⟨by rw [any_of_take HT.out]; rfl, rfl⟩
      | false =>
        go_wp2_with fail
        go_round
        case rel => exact ⟨k + 1, by omega, by go_num, HT⟩
        case measure => simp [intOf]; omega
    · have hk1 : ¬ (k : Int) < (n : Int) := by omega
      have hf2 := hf.out
      rw [List.take_of_length_le (by rw [← HN.out]; omega)] at hf2
      have HF := hid hf2
      clear hf2 hf
      go_wp2_with fail
      go_ret
      exact ⟨by rw [HF.out]; rfl, rfl⟩
set_option maxRecDepth 100000 in
set_option maxHeartbeats 1000000 in
theorem has_row (v : Value) (s : Bs) (p : UInt8 → Bool) (g : Nat) (lb : Array Value) (w : World) (hs : Sl w v s) (hm : s.length ≤ 140737488355328)
    (eg : ∀ args w, (callFunc g args).run Tryd.prog w = .ok (.enter g args) w) (hp : Tells g lb p w) :
    Calls Tryd.prog 22 #[v, .func (.func g) #[] lb] w fun e w' => e = .returned (.bool (s.any p)) ∧ w' = w := by
  have HP := hid hp
  have HS := hid hs
  obtain ⟨ao, cap, rfl⟩ := hs.shape
  clear hp hs
  obtain ⟨n, hn⟩ : ∃ n, n = s.length := ⟨_, rfl⟩
  rw [← hn] at hm ⊢
  have HN := hid hn
  clear hn
  go_enter Tryd.func22, Tryd.ntmps22
  go_wp2_with fail
  go_loop [5, 8] (fun v5 v8 => ∃ k : Nat, k ≤ n ∧ v8 = .int .i64 (k : Int) ∧ Hid ((s.take k).any p = false)) (fun _ v8 => n - (intOf v8).toNat)
  case atStart => exact ⟨0, by omega, rfl, hid rfl⟩
  case round =>
    obtain ⟨k, hk, rfl, hf⟩ := hrel
    by_cases hkn : k < n
    · have hk1 : (k : Int) < (n : Int) := by omega
      have hks : k < s.length := by rw [← HN.out]; exact hkn
      have HT := hid (any_take_succ p s k hks)
      obtain ⟨g1, o, rfl, hg, _, hcap, hc⟩ := HS.out.at (fun e => by rw [e] at hks; simp at hks)
      rw [← HN.out] at hcap
      have hck := hc k hks
      generalize s[k] = x at *
      clear hc
      go_wp2_with fail
      refine (HP.out x).mono ?_
      rintro e w1 ⟨rfl, rfl⟩
      generalize hb : p x = b at *
      have HB := hid hb
      clear hb
      rw [hf.out, Bool.false_or] at HT
      cases b with
      | true =>
        go_wp2_with fail
        go_ret
        exact ⟨by rw [any_of_take HT.out]; rfl, rfl⟩
      | false =>
        go_wp2_with fail
        go_round
        case rel => exact ⟨k + 1, by omega, by go_num, HT⟩
        case measure => simp [intOf]; omega
    · have hk1 : ¬ (k : Int) < (n : Int) := by omega
      have hf2 := hf.out
      rw [List.take_of_length_le (by rw [← HN.out]; omega)] at hf2
      have HF := hid hf2
      clear hf2 hf
      go_wp2_with fail
      go_ret
      exact ⟨by rw [HF.out]; rfl, rfl⟩
end Go.Proofs.YtelfogdcijmenaaDoor
