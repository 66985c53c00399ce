/- TermMakes with few terms. -/
import Derived.Test.YtcmpiffkmnbepaaDoorMLaw
namespace Go.Proofs.YtcmpiffkmnbepaaDoor
open Go.RowKit

theorem texts_get {w : World} {a : Option Addr} {cap : Nat} {ks : List Bs} (h : Texts w (.slice a ks.length cap) ks) (i : Nat) (hi : i < ks.length) : ∃ g o, a = some ⟨g, o, none⟩ ∧ g < w.heap.size ∧ w.cell? ⟨g, o + i, none⟩ = some (St ks[i]) := by
  obtain ⟨ao, cap', e, hc⟩ := h
  obtain ⟨rfl, rfl⟩ : a = ao ∧ cap = cap' := by simpa using e
  obtain ⟨g, o, rfl, hlt, hcell⟩ := hc (by intro e; rw [e] at hi; simp at hi)
  exact ⟨g, o, rfl, hlt, hcell i hi⟩

/-- the last of it: one's own terms against those handed in -/
theorem two_own {w0 w1 w2 : World} (h1 : Below w0.heap.size w0 w1) (h2 : Below w1.heap.size w1 w2) : Below w0.heap.size w0 w2 := h1.trans (h2.mono h1.size)

set_option maxHeartbeats 8000000 in
set_option maxRecDepth 100000 in
theorem makes_few (n : Int) (hn1 : -9223372036854775808 ≤ n) (hn2 : n ≤ 9223372036854775807) (s : Bs) (w : World) (a : Option Addr) (cap : Nat) (ks : List Bs) (hk : Texts w (.slice a ks.length cap) ks) (hl : ks.length ≤ 40) (hs : s.length ≤ 140737488355328)
    (hb : ∀ i (h : i < ks.length), ks[i].length ≤ 140737488355328) (hp : Pw w) :
    Calls Tryd.prog 4 #[.int .i64 n, St s, .slice a ks.length cap] w fun en w' => en = .returned (.bool true) ∧ Below w.heap.size w w' := by
  have hsz : (⟨s.toArray⟩ : ByteArray).size = s.length := st_size s
  have HK := hid hk
  have HB := hid hb
  have HP := hid hp
  have HL := hid hl
  have H1 := hid hn1
  have H2 := hid hn2
  clear hk hb hp hn1 hn2
  obtain ⟨N, hN⟩ : ∃ N, N = ks.length := ⟨_, rfl⟩
  have HKN : Hid (Texts w (.slice a N cap) ks) := by apply hid; rw [hN]; exact HK.out
  rw [← hN] at hl ⊢
  have HN := hid hN
  clear hN
  have hn1 : ¬ (40 : Int) < (N : Int) := by omega
  obtain ⟨sl, hsl⟩ : ∃ sl, sl = s.length := ⟨_, rfl⟩
  rw [← hsl] at hsz hs
  have HSL := hid hsl
  clear hsl
  go_enter Tryd.func4, Tryd.ntmps4
  go_wp2_with fail
  go_loopg [7, 8] N (fun gg v7 v8 wr => ∃ (i x : Nat), i ≤ N ∧ gg = N - i ∧ v7 = .int .i64 (x : Int) ∧ v8 = .int .i64 (i : Int) ∧ x ≤ (i + 1) * 140737488355328 ∧ sl ≤ x ∧ wr = w)
  case atStart => exact ⟨0, sl, by omega, rfl, rfl, rfl, by omega, Nat.le_refl _, rfl⟩
  case round =>
    obtain ⟨i, x, hi, rfl, rfl, rfl, hx, hslx, rfl⟩ := hrel
    by_cases hil : i < N
    · have hi1 : (i : Int) < (N : Int) := by omega
      have HIL := hid hil
      have hi60 : (i : Int) < 40 := by omega
      obtain ⟨g, o, rfl, hlt, hce⟩ := texts_get HK.out i (by rw [← HN.out]; exact hil)
      have hkb := HB.out i (by rw [← HN.out]; exact hil)
      generalize ks[i]'(by rw [← HN.out]; exact hil) = k at hce hkb
      have hks : (⟨k.toArray⟩ : ByteArray).size = k.length := st_size k
      generalize k.length = kl at hks hkb
      have HXN : Hid (x + kl ≤ (i + 1 + 1) * 140737488355328 ∧ sl ≤ x + kl) := by apply hid; omega
      have hxm : (x : Int) + (kl : Int) < 9000000000000000 := by omega
      clear hi hil hx hslx hkb hs hl
      go_wp2_with fail
      go_roundg (N - (i + 1))
      case measure => have := HIL.out; omega
      case rel => exact ⟨i + 1, x + kl, HIL.out, rfl, rfl, rfl, HXN.out.1, HXN.out.2, rfl⟩
    · have hi1 : ¬ (i : Int) < (N : Int) := by omega
      obtain rfl : N = i := by omega
      clear hi hil hx
      by_cases hx3 : 20000 < x
      · have hx3' : (20000 : Int) < (x : Int) := by omega
        clear hs hl hslx
        go_wp2_with fail
        go_ret
        exact ⟨rfl, Below.refl _ _⟩
      · have hx3' : ¬ (20000 : Int) < (x : Int) := by omega
        have HS2 : Hid (s.length ≤ 20000) := by apply hid; rw [← HSL.out]; omega
        clear hs hl hslx hx3
        have HC1 := hid (mkname_any n H2.out wr HP.out)
        have HC2 := hid (rname_any n H1.out H2.out)
        have HC3 : Hid (∀ W, Below wr.heap.size wr W → Calls Tryd.prog 23 #[St s] W fun en w' => en = made (textRes s) ∧ Below W.heap.size W w') := hid (fun W h => mktext_any s W HS2.out (HP.out.below h))
        have HC4 : Hid (∀ W : World, Calls Tryd.prog 24 #[St s] W fun en w' => en = made (textRes s) ∧ Below W.heap.size W w') := hid (fun W => rtext_any s W HS2.out)
        have HC5 : Hid (∀ (W : World) (kv : Value), Below wr.heap.size wr W → Texts W kv ks → Calls Tryd.prog 25 #[kv] W fun en w' => en = made (tupRes ks) ∧ Below W.heap.size W w') := hid (fun W kv h ht => mktuple_any ks kv W ht HL.out (HP.out.below h))
        have HC6 : Hid (∀ (W : World) (kv : Value), Texts W kv ks → Calls Tryd.prog 26 #[kv] W fun en w' => en = made (tupRes ks) ∧ Below W.heap.size W w') := hid (fun W kv ht => rtuple_any ks kv W ht HL.out)
        clear HP
        unfold made at HC1 HC2 HC3 HC4 HC5 HC6
        generalize nameRes n = rn at HC1 HC2
        generalize textRes s = rt at HC3 HC4
        generalize tupRes ks = rk at HC5 HC6
        obtain ⟨n1, n2⟩ := rn
        obtain ⟨t1, t2⟩ := rt
        obtain ⟨k1, k2⟩ := rk
        go_wp2_with fail
        refine HC1.out.mono ?_
        rintro e w1 ⟨rfl, hb⟩
        have HB1 := hid hb
        clear hb HC1
        go_wp2_with fail
        refine (HC2.out _).mono ?_
        rintro e w2 ⟨rfl, hb⟩
        have HB2 := hid (two_own HB1.out hb)
        clear hb HB1 HC2
        go_wp2_with fail
        refine (HC3.out _ HB2.out).mono ?_
        rintro e w3 ⟨rfl, hb⟩
        have HB3 := hid (two_own HB2.out hb)
        clear hb HB2 HC3
        go_wp2_with fail
        refine (HC4.out _).mono ?_
        rintro e w4 ⟨rfl, hb⟩
        have HB4 := hid (two_own HB3.out hb)
        clear hb HB3 HC4
        have HT4 : Hid (Texts w4 (.slice a N cap) ks) := hid (texts_below HKN.out HB4.out)
        obtain ⟨oa, oc, w5, hrun, hto, hb5⟩ := append_terms w4 _ ks HT4.out HL.out
        have HT5 := hid (texts_below HT4.out hb5)
        have HB5 := hid (two_own HB4.out hb5)
        rw [← HN.out] at hrun hto
        have HRUN := hid hrun
        have HTO := hid hto
        clear hrun hto hb5 HT4 HB4
        go_wp2_with (first | (at_builtin; refine wpList_append_run rfl (.tmp 65) (.tmp 66) 23 rfl (.slice none 0 0) (.slice a N cap) (.slice oa N oc) w5 rfl rfl HRUN.out ?_))
        refine (HC5.out _ _ HB5.out HTO.out).mono ?_
        rintro e w6 ⟨rfl, hb⟩
        have HB6 := hid (two_own HB5.out hb)
        have HT6 := hid (texts_below HT5.out hb)
        have HTO6 := hid (texts_below HTO.out hb)
        clear hb HB5 HT5 HTO HRUN HC5
        go_wp2_with fail
        refine (HC6.out _ _ HT6.out).mono ?_
        rintro e w7 ⟨rfl, hb⟩
        have HB7 := hid (two_own HB6.out hb)
        have HT7 := hid (texts_below HT6.out hb)
        have HTO7 := hid (texts_below HTO6.out hb)
        clear hb HB6 HT6 HTO6 HC6
        go_wp2_with fail
        clear hi1 hx3'
        go_loopg [22] N (fun gg v wr' => ∃ i : Nat, i ≤ N ∧ gg = N - i ∧ v = .int .i64 (i : Int) ∧ Below w7.heap.size w7 wr')
        case atStart => exact ⟨0, by omega, rfl, rfl, Below.refl _ _⟩
        case round =>
          rename_i wq
          obtain ⟨i, hi, rfl, rfl, hbq⟩ := hrel
          have HBQ := hid hbq
          clear hbq
          by_cases hil : i < N
          · have hi1 : (i : Int) < (N : Int) := by omega
            have HIL := hid hil
            have HTA := hid (texts_below HT7.out HBQ.out)
            have HTB := hid (texts_below HTO7.out HBQ.out)
            have hi60 : (i : Int) < 40 := by have := HL.out; have := HN.out; omega
            obtain ⟨g, o, ha, hlt, hce⟩ := texts_get (ks := ks) (by rw [← HN.out]; exact HTA.out) i (by rw [← HN.out]; exact hil)
            obtain ⟨g', o', ha', hlt', hce'⟩ := texts_get (ks := ks) (by rw [← HN.out]; exact HTB.out) i (by rw [← HN.out]; exact hil)
            generalize ks[i]'(by rw [← HN.out]; exact hil) = k at hce hce'
            subst ha ha'
            clear hi hil
            go_wp2_with fail
            go_quiet (fail)
            go_wp2_with fail
            go_roundg (N - (i + 1))
            case measure => have := HIL.out; omega
            case rel => exact ⟨i + 1, HIL.out, rfl, rfl, HBQ.out.trans ⟨rfl, rfl, rfl, Nat.le_refl _, fun _ _ => rfl⟩⟩
          · have hi1 : ¬ (i : Int) < (N : Int) := by omega
            clear hi hil
            go_wp2_with fail
            refine (works_any _).mono ?_
            rintro e w8 ⟨rfl, hb⟩
            have HB8 := hid (two_own (two_own HB7.out HBQ.out) hb)
            clear hb
            go_wp2_with fail
            go_ret
            exact ⟨rfl, HB8.out⟩
theorem makes_any (n : Int) (hn1 : -9223372036854775808 ≤ n) (hn2 : n ≤ 9223372036854775807) (s : Bs) (w : World) (a : Option Addr) (cap : Nat) (ks : List Bs) (hk : Texts w (.slice a ks.length cap) ks) (hm : ks.length ≤ maxLen) (hs : s.length ≤ 140737488355328)
    (hb : ∀ i (h : i < ks.length), ks[i].length ≤ 140737488355328) (hp : Pw w) :
    Calls Tryd.prog 4 #[.int .i64 n, St s, .slice a ks.length cap] w fun en w' => en = .returned (.bool true) ∧ Below w.heap.size w w' := by
  by_cases hl : ks.length ≤ 40
  · exact makes_few n hn1 hn2 s w a cap ks hk hl hs hb hp
  · exact makes_many n s w a cap ks hk (by omega) hm hs
end Go.Proofs.YtcmpiffkmnbepaaDoor
