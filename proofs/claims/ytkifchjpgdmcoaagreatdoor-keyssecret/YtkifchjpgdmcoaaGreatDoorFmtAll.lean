import Derived.Test.YtkifchjpgdmcoaaGreatDoorFrameAll
import Derived.Shelf.LaysM
import Derived.Shelf.Strconv.Itoa3
import Derived.Shelf.Strconv.Itoa4
import Derived.Lib.LaidTab
import Derived.Test.YtkifchjpgdmcoaaGreatDoorBuildAll
import Derived.Lib.ItoaNum
/- The library's number writing, by its contract: numbers of any length. -/
namespace Go.Proofs.YtkifchjpgdmcoaaGreatDoor
open Go.RowKit

section
open Go.Shelf
def Tryz.laysM171_ren : Go.Shelf.Ren := ⟨fun | 171 => 99 | 243 => 116 | 246 => 72 | 283 => 95 | 284 => 96 | 285 => 97 | 286 => 98 | 129 => 112 | 317 => 111 | 318 => 113 | 319 => 114 | 320 => 115 | 337 => 128 | 338 => 129 | n => n, fun | 3 => 3 | 9 => 9 | 2 => 2 | 4 => 4 | 171 => 112 | 0 => 0 | 53 => 106 | 37 => 90 | 5 => 5 | 173 => 115 | 212 => 129 | 51 => 130 | 20 => 20 | 213 => 131 | 46 => 133 | 232 => 141 | 233 => 142 | n => n, fun | 17 => 1 | 18 => 3 | 19 => 4 | n => n⟩
theorem Tryz.laysM171 : Go.Proofs.LaysM.n171 Tryz.prog Tryz.laysM171_ren := {
  mixed := by kernel_rfl
  f129 := Tryz.func112.trans (congrArg some (by kernel_rfl))
  f171 := Tryz.func99.trans (congrArg some (by kernel_rfl))
  f243 := Tryz.func116.trans (congrArg some (by kernel_rfl))
  f246 := Tryz.func72.trans (congrArg some (by kernel_rfl))
  f283 := Tryz.func95.trans (congrArg some (by kernel_rfl))
  f284 := Tryz.func96.trans (congrArg some (by kernel_rfl))
  f285 := Tryz.func97.trans (congrArg some (by kernel_rfl))
  f286 := Tryz.func98.trans (congrArg some (by kernel_rfl))
  f317 := Tryz.func111.trans (congrArg some (by kernel_rfl))
  f318 := Tryz.func113.trans (congrArg some (by kernel_rfl))
  f319 := Tryz.func114.trans (congrArg some (by kernel_rfl))
  f320 := Tryz.func115.trans (congrArg some (by kernel_rfl))
  f337 := Tryz.func128.trans (congrArg some (by kernel_rfl))
  f338 := Tryz.func129.trans (congrArg some (by kernel_rfl))
  t0 := Tryz.underlying0
  a0 := Tryz.isAgg0
  z0 := Tryz.sizeOf0
  v0 := Tryz.zeroValue0
  t2 := Tryz.underlying2
  a2 := Tryz.isAgg2
  z2 := Tryz.sizeOf2
  v2 := Tryz.zeroValue2
  t3 := Tryz.underlying3
  a3 := Tryz.isAgg3
  z3 := Tryz.sizeOf3
  v3 := Tryz.zeroValue3
  t4 := Tryz.underlying4
  a4 := Tryz.isAgg4
  z4 := Tryz.sizeOf4
  v4 := Tryz.zeroValue4
  t5 := Tryz.underlying5
  a5 := Tryz.isAgg5
  z5 := Tryz.sizeOf5
  v5 := Tryz.zeroValue5
  t9 := Tryz.underlying9
  a9 := Tryz.isAgg9
  z9 := Tryz.sizeOf9
  v9 := Tryz.zeroValue9
  t20 := Tryz.underlying20
  a20 := Tryz.isAgg20
  z20 := Tryz.sizeOf20
  v20 := Tryz.zeroValue20
  t37 := Tryz.underlying90
  a37 := Tryz.isAgg90
  z37 := Tryz.sizeOf90
  v37 := Tryz.zeroValue90
  t46 := Tryz.underlying133
  a46 := Tryz.isAgg133
  z46 := Tryz.sizeOf133
  v46 := Tryz.zeroValue133
  t51 := Tryz.underlying130
  a51 := Tryz.isAgg130
  z51 := Tryz.sizeOf130
  v51 := Tryz.zeroValue130
  t53 := Tryz.underlying106
  a53 := Tryz.isAgg106
  z53 := Tryz.sizeOf106
  v53 := Tryz.zeroValue106
  t171 := Tryz.underlying112
  a171 := Tryz.isAgg112
  z171 := Tryz.sizeOf112
  v171 := Tryz.zeroValue112
  t173 := Tryz.underlying115
  a173 := Tryz.isAgg115
  z173 := Tryz.sizeOf115
  v173 := Tryz.zeroValue115
  t212 := Tryz.underlying129
  a212 := Tryz.isAgg129
  z212 := Tryz.sizeOf129
  v212 := Tryz.zeroValue129
  t213 := Tryz.underlying131
  a213 := Tryz.isAgg131
  z213 := Tryz.sizeOf131
  t232 := Tryz.underlying141
  a232 := Tryz.isAgg141
  z232 := Tryz.sizeOf141
  v232 := Tryz.zeroValue141
  t233 := Tryz.underlying142
  a233 := Tryz.isAgg142
  z233 := Tryz.sizeOf142
  v233 := Tryz.zeroValue142
  g17 := by kernel_rfl
  g18 := by kernel_rfl
  g19 := by kernel_rfl
  i0 := by kernel_rfl
  i2 := by kernel_rfl
  i3 := by kernel_rfl
  i4 := by kernel_rfl
  i5 := by kernel_rfl
  i9 := by kernel_rfl
  i20 := by kernel_rfl
  i37 := by kernel_rfl
  i46 := by kernel_rfl
  i51 := by kernel_rfl
  i53 := by kernel_rfl
  i171 := by kernel_rfl
  i173 := by kernel_rfl
  i212 := by kernel_rfl
  i232 := by kernel_rfl
  i233 := by kernel_rfl
  m17 := by kernel_rfl
  m18 := by kernel_rfl
  m19 := by kernel_rfl }
open Go.RowKit Go.Sort Go.Lib in
/-- strconv.Itoa: "Itoa is equivalent to FormatInt(int64(i), 10).": i's DECIMAL NUMERAL ('Lib.itoa': a '-' where i is negative, then the digits), FOR EVERY int. The world behind the call: the world before it, new blocks behind the heap (the library's 'var a [24]byte'), draws. (LAID: no walk: one application.) -/
theorem Tryz.strconv_Itoa (n : Int) (h0 : -9223372036854775808 ≤ n) (h1 : n ≤ 9223372036854775807) (w : World) (htab : Lib.TabIs Tryz.prog w "internal/strconv.uint64pow10" .u64 Lib.pow10Tab) :
    Calls Tryz.prog 99 #[.int .i64 n] w fun e w' => e = .returned (.string ⟨(Lib.itoa n).toArray⟩) ∧ ∃ k os, w' = grow (w.drewN k) os := Any.strconv_Itoa Tryz.laysM171 n h0 h1 w htab
def Tryz.laysM173_ren : Go.Shelf.Ren := ⟨fun | 173 => 47 | 246 => 72 | 283 => 95 | 284 => 96 | 285 => 97 | 286 => 98 | 129 => 112 | 317 => 111 | 318 => 113 | 319 => 114 | 320 => 115 | 337 => 128 | 338 => 129 | n => n, fun | 2 => 2 | 3 => 3 | 9 => 9 | 4 => 4 | 171 => 112 | 0 => 0 | 53 => 106 | 37 => 90 | 5 => 5 | 173 => 115 | 212 => 129 | 51 => 130 | 20 => 20 | 213 => 131 | 46 => 133 | 232 => 141 | 233 => 142 | n => n, fun | 17 => 1 | 18 => 3 | 19 => 4 | n => n⟩
theorem Tryz.laysM173 : Go.Proofs.LaysM.n173 Tryz.prog Tryz.laysM173_ren := {
  mixed := by kernel_rfl
  f129 := Tryz.func112.trans (congrArg some (by kernel_rfl))
  f173 := Tryz.func47.trans (congrArg some (by kernel_rfl))
  f246 := Tryz.func72.trans (congrArg some (by kernel_rfl))
  f283 := Tryz.func95.trans (congrArg some (by kernel_rfl))
  f284 := Tryz.func96.trans (congrArg some (by kernel_rfl))
  f285 := Tryz.func97.trans (congrArg some (by kernel_rfl))
  f286 := Tryz.func98.trans (congrArg some (by kernel_rfl))
  f317 := Tryz.func111.trans (congrArg some (by kernel_rfl))
  f318 := Tryz.func113.trans (congrArg some (by kernel_rfl))
  f319 := Tryz.func114.trans (congrArg some (by kernel_rfl))
  f320 := Tryz.func115.trans (congrArg some (by kernel_rfl))
  f337 := Tryz.func128.trans (congrArg some (by kernel_rfl))
  f338 := Tryz.func129.trans (congrArg some (by kernel_rfl))
  t0 := Tryz.underlying0
  a0 := Tryz.isAgg0
  z0 := Tryz.sizeOf0
  v0 := Tryz.zeroValue0
  t2 := Tryz.underlying2
  a2 := Tryz.isAgg2
  z2 := Tryz.sizeOf2
  v2 := Tryz.zeroValue2
  t3 := Tryz.underlying3
  a3 := Tryz.isAgg3
  z3 := Tryz.sizeOf3
  v3 := Tryz.zeroValue3
  t4 := Tryz.underlying4
  a4 := Tryz.isAgg4
  z4 := Tryz.sizeOf4
  v4 := Tryz.zeroValue4
  t5 := Tryz.underlying5
  a5 := Tryz.isAgg5
  z5 := Tryz.sizeOf5
  v5 := Tryz.zeroValue5
  t9 := Tryz.underlying9
  a9 := Tryz.isAgg9
  z9 := Tryz.sizeOf9
  v9 := Tryz.zeroValue9
  t20 := Tryz.underlying20
  a20 := Tryz.isAgg20
  z20 := Tryz.sizeOf20
  v20 := Tryz.zeroValue20
  t37 := Tryz.underlying90
  a37 := Tryz.isAgg90
  z37 := Tryz.sizeOf90
  v37 := Tryz.zeroValue90
  t46 := Tryz.underlying133
  a46 := Tryz.isAgg133
  z46 := Tryz.sizeOf133
  v46 := Tryz.zeroValue133
  t51 := Tryz.underlying130
  a51 := Tryz.isAgg130
  z51 := Tryz.sizeOf130
  v51 := Tryz.zeroValue130
  t53 := Tryz.underlying106
  a53 := Tryz.isAgg106
  z53 := Tryz.sizeOf106
  v53 := Tryz.zeroValue106
  t171 := Tryz.underlying112
  a171 := Tryz.isAgg112
  z171 := Tryz.sizeOf112
  v171 := Tryz.zeroValue112
  t173 := Tryz.underlying115
  a173 := Tryz.isAgg115
  z173 := Tryz.sizeOf115
  v173 := Tryz.zeroValue115
  t212 := Tryz.underlying129
  a212 := Tryz.isAgg129
  z212 := Tryz.sizeOf129
  v212 := Tryz.zeroValue129
  t213 := Tryz.underlying131
  a213 := Tryz.isAgg131
  z213 := Tryz.sizeOf131
  t232 := Tryz.underlying141
  a232 := Tryz.isAgg141
  z232 := Tryz.sizeOf141
  v232 := Tryz.zeroValue141
  t233 := Tryz.underlying142
  a233 := Tryz.isAgg142
  z233 := Tryz.sizeOf142
  v233 := Tryz.zeroValue142
  g17 := by kernel_rfl
  g18 := by kernel_rfl
  g19 := by kernel_rfl
  i0 := by kernel_rfl
  i2 := by kernel_rfl
  i3 := by kernel_rfl
  i4 := by kernel_rfl
  i5 := by kernel_rfl
  i9 := by kernel_rfl
  i20 := by kernel_rfl
  i37 := by kernel_rfl
  i46 := by kernel_rfl
  i51 := by kernel_rfl
  i53 := by kernel_rfl
  i171 := by kernel_rfl
  i173 := by kernel_rfl
  i212 := by kernel_rfl
  i232 := by kernel_rfl
  i233 := by kernel_rfl
  m17 := by kernel_rfl
  m18 := by kernel_rfl
  m19 := by kernel_rfl }
open Go.RowKit Go.Sort Go.Lib in
/-- strconv.FormatInt: "FormatInt returns the string representation of i in the given base": AT BASE 10: i's decimal numeral, for every int64. (LAID: no walk: one application.) -/
theorem Tryz.strconv_FormatInt_10 (n : Int) (h0 : -9223372036854775808 ≤ n) (h1 : n ≤ 9223372036854775807) (w : World) (htab : Lib.TabIs Tryz.prog w "internal/strconv.uint64pow10" .u64 Lib.pow10Tab) :
    Calls Tryz.prog 47 #[.int .i64 n, .int .i64 10] w fun e w' => e = .returned (.string ⟨(Lib.itoa n).toArray⟩) ∧ ∃ k os, w' = grow (w.drewN k) os := Any.strconv_FormatInt_10 Tryz.laysM173 n h0 h1 w htab
end

/-- the table of powers lies there -/
def Pw (w : World) : Prop := Lib.TabIs Tryz.prog w "internal/strconv.uint64pow10" .u64 Lib.pow10Tab
theorem Tryz.gP : ∃ g, Tryz.prog.globalNamed "internal/strconv.uint64pow10" = some g := Option.isSome_iff_exists.1 (by kernel_rfl)
theorem Pw.below {w w' : World} (h : Pw w) (hb : Below w.heap.size w w') : Pw w' := by
  obtain ⟨g, hg⟩ := Tryz.gP
  unfold Pw Lib.TabIs World.var? at *
  rw [hg] at h ⊢
  simp only [Option.bind_some] at h ⊢
  have hlt : g < w.heap.size := by
    apply Classical.byContradiction
    intro hn
    rw [Array.getElem?_eq_none (by omega)] at h
    cases h
  rw [hb.block g hlt]
  exact h
theorem below_grow {w : World} (k : Nat) (os : Array Obj) : Below w.heap.size w (Sort.grow (w.drewN k) os) :=
  ⟨rfl, rfl, rfl, by simp [Sort.grow, World.drewN], fun j hj => Sort.heap_grow_old (w.drewN k) os hj⟩

/-- a number's digits -/
abbrev dec (n : Nat) : Bs := Lib.decDigits n
theorem format_any (n : Nat) (hn : n ≤ 9223372036854775807) (w : World) (hp : Pw w) : Calls Tryz.prog 47 #[.int .i64 (n : Int), .int .i64 10] w fun e w' => e = .returned (St (dec n)) ∧ Below w.heap.size w w' := by
  refine (Tryz.strconv_FormatInt_10 (n : Int) (by omega) (by omega) w hp).mono ?_
  rintro e w' ⟨rfl, k, os, rfl⟩
  exact ⟨by rw [Lib.itoa_nonneg], below_grow k os⟩
theorem itoa_any (n : Nat) (hn : n ≤ 9223372036854775807) (w : World) (hp : Pw w) : Calls Tryz.prog 99 #[.int .i64 (n : Int)] w fun e w' => e = .returned (St (dec n)) ∧ Below w.heap.size w w' := by
  refine (Tryz.strconv_Itoa (n : Int) (by omega) (by omega) w hp).mono ?_
  rintro e w' ⟨rfl, k, os, rfl⟩
  exact ⟨by rw [Lib.itoa_nonneg], below_grow k os⟩
theorem dec_len (n : Nat) (h : n ≤ 18446744073709551615) : (dec n).length ≤ 20 := by
  have step : ∀ (k m : Nat), m < 10 ^ (k + 1) → (Lib.decDigits m).length ≤ k + 1 := by
    intro k
    induction k with
    | zero => intro m hm; rw [Lib.decDigits_one (by omega)]; simp
    | succ k ih =>
      intro m hm
      by_cases h10 : m < 10
      · rw [Lib.decDigits_one h10]; simp
      · rw [Lib.decDigits, dif_neg h10, List.length_append]
        have := ih (m / 10) (by rw [Nat.pow_succ] at hm; omega)
        simp; omega
  exact step 19 n (by omega)
end Go.Proofs.YtkifchjpgdmcoaaGreatDoor

/- Names, texts and tuples of any length, as the program makes them. -/
namespace Go.Proofs.YtkifchjpgdmcoaaGreatDoor
open Go.RowKit

theorem texts_below {w w' : World} {kv : Value} {ks : List Bs} (h : Texts w kv ks) (hb : Below w.heap.size w w') : Texts w' kv ks := by
  obtain ⟨ao, cap, e, h1⟩ := h
  refine ⟨ao, cap, e, fun hne => ?_⟩
  obtain ⟨g, o, e2, hlt, hc⟩ := h1 hne
  exact ⟨g, o, e2, Nat.lt_of_lt_of_le hlt hb.size, fun i hi => (hb.cell (p := ⟨g, o + i, none⟩) hlt).trans (hc i hi)⟩
/-- what a name's maker answers -/
def nameRes (n : Int) : Bs × Nat := if n < 0 then ([], 2) else bRes 110 (dec n.toNat ++ [59]) []
def textRes (s : Bs) : Bs × Nat := if 4096 < s.length then ([], 3) else bRes 116 (dec s.length ++ [58] ++ s) []
def tupRes (ks : List Bs) : Bs × Nat := if 32 < ks.length then ([], 3) else bRes 84 (dec ks.length ++ [58]) ks

set_option maxHeartbeats 1000000 in
theorem mkname_any (n : Int) (hn : n ≤ 9223372036854775807) (w : World) (hp : Pw w) : Calls Tryz.prog 20 #[.int .i64 n] w fun en w' => en = made (nameRes n) ∧ Below w.heap.size w w' := by
  by_cases h0 : n < 0
  · have HR : Hid (nameRes n = ([], 2)) := by apply hid; unfold nameRes; rw [if_pos h0]
    go_enter Tryz.func20, Tryz.ntmps20
    go_wp2_with fail
    go_ret2
    exact ⟨by rw [HR.out]; rfl, Below.refl _ _⟩
  · obtain ⟨m, rfl⟩ : ∃ m : Nat, n = (m : Int) := ⟨n.toNat, by omega⟩
    have HR : Hid (nameRes (m : Int) = bRes 110 (dec m ++ [59]) []) := by apply hid; unfold nameRes; rw [if_neg h0]; simp
    have HP := hid hp
    have HD := hid (dec_len m (by omega))
    have HF : Hid (∀ W, Pw W → Calls Tryz.prog 47 #[.int .i64 (m : Int), .int .i64 10] W fun e w' => e = .returned (St (dec m)) ∧ Below W.heap.size W w') := hid (fun W h => format_any m (by omega) W h)
    clear hp hn
    generalize dec m = D at HR HD HF
    have hDs : (⟨D.toArray⟩ : ByteArray).size ≤ 20 := by rw [st_size]; exact HD.out
    go_enter Tryz.func20, Tryz.ntmps20
    go_wp2_with fail
    refine (HF.out _ HP.out).mono ?_
    rintro e w1 ⟨rfl, hb1⟩
    have HB1 := hid hb1
    clear hb1
    have ha1 : ∀ W, (Op.stringOp .add (⟨D.toArray⟩ : ByteArray) ⟨#[59]⟩).run Tryz.prog W = .ok (.string ⟨(D ++ [59]).toArray⟩) W := fun W => by
      rw [run_string_add_sum W _ _ (by show (⟨D.toArray⟩ : ByteArray).size + 1 ≤ _; omega)]; exact congrArg (fun z => Result.ok (Value.string z) W) (st_app D [59])
    go_wp2_with fail
    refine (build_any 110 (D ++ [59]) [] _ _ (texts_nil _) (by have := HD.out; simp; omega) (by simp)).mono ?_
    rintro e w2 ⟨rfl, hb⟩
    have HB := hid (HB1.out.trans (hb.mono HB1.out.size))
    clear hb
    go_wp2_with fail
    go_ret2
    exact ⟨by rw [HR.out]; rfl, HB.out⟩

set_option maxHeartbeats 1000000 in
theorem mktext_any (s : Bs) (w : World) (hs : s.length ≤ 20000) (hp : Pw w) : Calls Tryz.prog 73 #[St s] w fun en w' => en = made (textRes s) ∧ Below w.heap.size w w' := by
  have hsz : (⟨s.toArray⟩ : ByteArray).size = s.length := st_size s
  by_cases h0 : 4096 < s.length
  · have HR : Hid (textRes s = ([], 3)) := by apply hid; unfold textRes; rw [if_pos h0]
    have h0' : (4096 : Int) < (s.length : Int) := by omega
    go_enter Tryz.func73, Tryz.ntmps73
    go_wp2_with fail
    go_ret2
    exact ⟨by rw [HR.out]; rfl, Below.refl _ _⟩
  · have HR : Hid (textRes s = bRes 116 (dec s.length ++ 58 :: s) []) := by apply hid; unfold textRes; rw [if_neg h0, List.append_assoc]; rfl
    have h0' : ¬ (4096 : Int) < (s.length : Int) := by omega
    have HP := hid hp
    have HD := hid (dec_len s.length (by omega))
    have HF : Hid (∀ W, Pw W → Calls Tryz.prog 99 #[.int .i64 (s.length : Int)] W fun e w' => e = .returned (St (dec s.length)) ∧ Below W.heap.size W w') := hid (fun W h => itoa_any s.length (by omega) W h)
    have HS := hid h0
    clear hp hs h0
    generalize dec s.length = D at HR HD HF
    have hDs : (⟨D.toArray⟩ : ByteArray).size ≤ 20 := by rw [st_size]; exact HD.out
    go_enter Tryz.func73, Tryz.ntmps73
    go_wp2_with fail
    refine (HF.out _ HP.out).mono ?_
    rintro e w1 ⟨rfl, hb1⟩
    have HB1 := hid hb1
    clear hb1
    have hsum : (⟨D.toArray⟩ : ByteArray).size + 1 + s.length ≤ 9000 := by have := HS.out; omega
    have ha1 : ∀ W, (Op.stringOp .add (⟨D.toArray⟩ : ByteArray) ⟨#[58]⟩).run Tryz.prog W = .ok (.string ⟨(D ++ [58]).toArray⟩) W := fun W => by
      rw [run_string_add_sum W _ _ (by show (⟨D.toArray⟩ : ByteArray).size + 1 ≤ _; omega)]; exact congrArg (fun z => Result.ok (Value.string z) W) (st_app D [58])
    have ha2 : ∀ W, (Op.stringOp .add (⟨(D ++ [58]).toArray⟩ : ByteArray) ⟨s.toArray⟩).run Tryz.prog W = .ok (.string ⟨(D ++ [58] ++ s).toArray⟩) W := fun W => by
      rw [run_string_add_sum W _ _ (by rw [st_size, st_size, List.length_append]; rw [st_size] at hsum; simp; omega)]; exact congrArg (fun z => Result.ok (Value.string z) W) (st_app (D ++ [58]) s)
    clear hsum
    go_wp2_with fail
    refine (build_any 116 (D ++ 58 :: s) [] _ _ (texts_nil _) (by have := HD.out; have := HS.out; simp; omega) (by simp)).mono ?_
    rintro e w2 ⟨rfl, hb⟩
    have HB := hid (HB1.out.trans (hb.mono HB1.out.size))
    clear hb
    go_wp2_with fail
    go_ret2
    exact ⟨by rw [HR.out]; rfl, HB.out⟩

set_option maxHeartbeats 1000000 in
theorem mktuple_any (ks : List Bs) (kv : Value) (w : World) (hk : Texts w kv ks) (hn : ks.length ≤ 40) (hp : Pw w) : Calls Tryz.prog 74 #[kv] w fun en w' => en = made (tupRes ks) ∧ Below w.heap.size w w' := by
  have HK := hid hk
  obtain ⟨ao, cap, rfl, _⟩ := hk
  by_cases h0 : 32 < ks.length
  · have HR : Hid (tupRes ks = ([], 3)) := by apply hid; unfold tupRes; rw [if_pos h0]
    have h0' : (32 : Int) < (ks.length : Int) := by omega
    go_enter Tryz.func74, Tryz.ntmps74
    go_wp2_with fail
    go_ret2
    exact ⟨by rw [HR.out]; rfl, Below.refl _ _⟩
  · have HR : Hid (tupRes ks = bRes 84 (dec ks.length ++ [58]) ks) := by apply hid; unfold tupRes; rw [if_neg h0]
    have h0' : ¬ (32 : Int) < (ks.length : Int) := by omega
    have HP := hid hp
    have HD := hid (dec_len ks.length (by omega))
    have HF : Hid (∀ W, Pw W → Calls Tryz.prog 99 #[.int .i64 (ks.length : Int)] W fun e w' => e = .returned (St (dec ks.length)) ∧ Below W.heap.size W w') := hid (fun W h => itoa_any ks.length (by omega) W h)
    have HN := hid hn
    clear hp hn h0
    generalize dec ks.length = D at HR HD HF
    have hDs : (⟨D.toArray⟩ : ByteArray).size ≤ 20 := by rw [st_size]; exact HD.out
    go_enter Tryz.func74, Tryz.ntmps74
    go_wp2_with fail
    refine (HF.out _ HP.out).mono ?_
    rintro e w1 ⟨rfl, hb1⟩
    have HB1 := hid hb1
    have HK1 := hid (texts_below HK.out hb1)
    clear hb1
    have ha1 : ∀ W, (Op.stringOp .add (⟨D.toArray⟩ : ByteArray) ⟨#[58]⟩).run Tryz.prog W = .ok (.string ⟨(D ++ [58]).toArray⟩) W := fun W => by
      rw [run_string_add_sum W _ _ (by show (⟨D.toArray⟩ : ByteArray).size + 1 ≤ _; omega)]; exact congrArg (fun z => Result.ok (Value.string z) W) (st_app D [58])
    go_wp2_with fail
    refine (build_any 84 (D ++ [58]) ks _ _ HK1.out (by have := HD.out; simp; omega) HN.out).mono ?_
    rintro e w2 ⟨rfl, hb⟩
    have HB := hid (HB1.out.trans (hb.mono HB1.out.size))
    clear hb
    go_wp2_with fail
    go_ret2
    exact ⟨by rw [HR.out]; rfl, HB.out⟩
end Go.Proofs.YtkifchjpgdmcoaaGreatDoor
