import Derived.Test.YtfnnhekjeobicaaGreatDoorMindL
/- Whether terms are few and short. -/
namespace Go.Proofs.YtfnnhekjeobicaaGreatDoor
open Go.RowKit

def lens (l : List Bs) : Nat := (l.map List.length).sum
theorem lens_step (l : List Bs) (i : Nat) (h : i < l.length) : lens (l.take (i + 1)) = lens (l.take i) + l[i].length := by
  unfold lens
  rw [List.take_succ_eq_append_getElem h, List.map_append, List.sum_append]
  simp only [List.map_cons, List.map_nil, List.sum_cons, List.sum_nil, Nat.add_zero]

set_option maxRecDepth 100000 in
set_option maxHeartbeats 2000000 in
theorem small_many (w : World) (ao : Option Addr) (cap : Nat) (l : List Bs) (hk : Texts w (.slice ao l.length cap) l) (hl : 40 < l.length) (hm : l.length ≤ maxLen) :
    Calls Tryz.prog 7 #[.slice ao l.length cap] w fun e w' => e = .returned (.bool false) ∧ w' = w := by
  obtain ⟨ao', cap', he, ht⟩ := hk
  cases he
  obtain ⟨g, o, rfl, hg, hc⟩ := ht (fun e => by rw [e] at hl; simp at hl)
  have HC := hid hc
  obtain ⟨N, hN⟩ : ∃ N, N = l.length := ⟨_, rfl⟩
  rw [← hN] at hl hm ⊢
  have HN := hid hN
  unfold maxLen at hm
  have hn1 : ¬ (N : Int) ≤ 40 := by omega
  have HN1 := hid hn1
  have HM := hid hm
  clear hN hc hm hl
  go_enter Tryz.func7, Tryz.ntmps7
  go_wp2_with fail
  go_loopg [3, 4] N (fun gg v3 v4 wr => ∃ (i : Nat) (x : Int), i ≤ N ∧ gg = N - i ∧ v3 = .int .i64 x ∧ v4 = .int .i64 (i : Int) ∧ wr = w)
  case atStart => exact ⟨0, _, by omega, rfl, rfl, rfl, rfl⟩
  case round =>
    obtain ⟨i, x, hi, rfl, rfl, rfl, rfl⟩ := hrel
    by_cases hil : i < N
    · have hi1 : (i : Int) < (N : Int) := by omega
      have HIL := hid hil
      have hiw : IntKind.i64.wrap ((i : Int) + 1) = (i : Int) + 1 := by have := HM.out; rw [IntKind.wrap_i64]; omega
      have hce := HC.out i (by rw [← HN.out]; exact hil)
      generalize l[i]'(by rw [← HN.out]; exact hil) = k at hce
      have hks : (⟨k.toArray⟩ : ByteArray).size = k.length := st_size k
      clear hi hil
      go_wp2_with fail
      go_roundg (N - (i + 1))
      case measure => have := HIL.out; omega
      case rel => exact ⟨i + 1, _, HIL.out, rfl, rfl, rfl, rfl⟩
    · have hi1 : ¬ (i : Int) < (N : Int) := by omega
      clear hi hil
      by_cases hx : x ≤ 700
      all_goals
        go_wp2_with fail
        go_ret
        exact ⟨by first | rfl | (show Ending.returned (.bool (decide ((N : Int) ≤ 40))) = _; rw [decide_eq_false (by have := HN1.out; omega)]), rfl⟩

set_option maxRecDepth 100000 in
set_option maxHeartbeats 2000000 in
theorem small_few (w : World) (ao : Option Addr) (cap : Nat) (l : List Bs) (hk : Texts w (.slice ao l.length cap) l) (hl : l.length ≤ 40) (hs : ∀ i (h : i < l.length), l[i].length ≤ 140737488355328) :
    Calls Tryz.prog 7 #[.slice ao l.length cap] w fun e w' => e = .returned (.bool (decide (lens l ≤ 700))) ∧ w' = w := by
  obtain ⟨ao', cap', he, ht⟩ := hk
  cases he
  have HC : Hid (∀ i (h : i < l.length), ∃ g o, ao = some ⟨g, o, none⟩ ∧ w.cell? ⟨g, o + i, none⟩ = some (St l[i])) := hid (fun i h => by
    obtain ⟨g, o, e, _, hc⟩ := ht (fun e => by rw [e] at h; simp at h)
    exact ⟨g, o, e, hc i h⟩)
  obtain ⟨N, hN⟩ : ∃ N, N = l.length := ⟨_, rfl⟩
  rw [← hN] at hl ⊢
  have HN := hid hN
  have HS := hid hs
  have hn1 : (N : Int) ≤ 40 := by omega
  have HM := hid hl
  clear hN hl ht hs
  go_enter Tryz.func7, Tryz.ntmps7
  go_wp2_with fail
  go_loopg [3, 4] N (fun gg v3 v4 wr => ∃ (i : Nat) (x : Nat), i ≤ N ∧ gg = N - i ∧ v3 = .int .i64 (x : Int) ∧ v4 = .int .i64 (i : Int) ∧ x = lens (l.take i) ∧ x ≤ i * 140737488355328 ∧ wr = w)
  case atStart => exact ⟨0, 0, by omega, rfl, rfl, rfl, rfl, by omega, rfl⟩
  case round =>
    obtain ⟨i, x, hi, rfl, rfl, rfl, hx, hxb, rfl⟩ := hrel
    have HX := hid hx
    have HXB := hid hxb
    by_cases hil : i < N
    · have hi1 : (i : Int) < (N : Int) := by omega
      have HIL := hid hil
      have hiw : IntKind.i64.wrap ((i : Int) + 1) = (i : Int) + 1 := by have := HM.out; rw [IntKind.wrap_i64]; omega
      have hlt : i < l.length := by rw [← HN.out]; exact hil
      obtain ⟨g, o, hao, hce⟩ := HC.out i hlt
      have HLS := hid (lens_step l i hlt)
      have HSI := hid (HS.out i hlt)
      generalize l[i] = k at hce HLS HSI
      subst hao
      have hks : (⟨k.toArray⟩ : ByteArray).size = k.length := st_size k
      have hw : IntKind.i64.wrap ((x : Int) + (k.length : Int)) = (x : Int) + (k.length : Int) := by
        have h1 := HSI.out; have h2 := HXB.out; have h3 := HM.out; have h4 := HIL.out; rw [IntKind.wrap_i64]; omega
      have HXN : Hid (x + k.length = lens (l.take (i + 1)) ∧ x + k.length ≤ (i + 1) * 140737488355328) := by
        apply hid; have h1 := HSI.out; have h2 := HXB.out; have h3 := HLS.out; have h4 := HX.out; omega
      clear hi hil hx hxb
      go_wp2_with fail
      go_roundg (N - (i + 1))
      case measure => have := HIL.out; omega
      case rel => exact ⟨i + 1, x + k.length, HIL.out, rfl, by go_num, by go_num, HXN.out.1, HXN.out.2, rfl⟩
    · have hi1 : ¬ (i : Int) < (N : Int) := by omega
      have HE : Hid (lens l = x) := by apply hid; rw [HX.out, List.take_of_length_le]; rw [← HN.out]; omega
      clear hi hil hx hxb
      by_cases hx : (x : Int) ≤ 700
      · have HD : Hid (decide (x ≤ 700) = true) := by apply hid; simp; omega
        go_wp2_with fail
        go_ret
        exact ⟨by rw [HE.out, HD.out]; first | rfl | (show Ending.returned (.bool (decide ((N : Int) ≤ 40))) = _; rw [decide_eq_true (by have := HM.out; omega)]), rfl⟩
      · have HD : Hid (decide (x ≤ 700) = false) := by apply hid; simp; omega
        go_wp2_with fail
        go_ret
        exact ⟨by rw [HE.out, HD.out]; rfl, rfl⟩
end Go.Proofs.YtfnnhekjeobicaaGreatDoor

/- Whether a name stands in a term. -/
namespace Go.Proofs.YtfnnhekjeobicaaGreatDoor
open Go.RowKit

/-- the parts of a right term, none of a wrong one -/
def kidsR (t : Bs) : List Bs := if Tm.deep t = 0 then [] else Tm.kidsOf 63 t
def standsF (x : Bs) : Nat → Bs → Bool
  | 0, t => t == x
  | n + 1, t => t == x || (kidsR t).any (standsF x n)
theorem kopen_any (t : Bs) (w : World) : Calls Tryz.prog 44 #[St t] w fun en w' => ∃ c tn tx kids ok, en = .returned (.tuple #[.agg #[.int .u8 c, .int .i64 tn, .string tx, kids], .bool ok]) ∧
    w'.ownsRow w.heap.size 29 1 kids (kidsR t).length ((kidsR t).map St) ∧ Below w.heap.size w w' := by
  unfold kidsR
  by_cases hd : Tm.deep t = 0
  · rw [if_pos hd]
    refine (open_no t w hd).mono ?_
    rintro e w1 ⟨rfl, hb⟩
    exact ⟨_, _, _, _, _, rfl, World.ownsRow_nil _ _ _ _, hb⟩
  · rw [if_neg hd]
    match t, hd with
    | [], hd => exact absurd rfl hd
    | c :: l, hd =>
      refine (open_yes c l w hd).mono ?_
      rintro e w1 ⟨kids, rfl, hr, hb⟩
      exact ⟨_, _, _, _, _, rfl, hr, hb⟩
def StC (n : Nat) : Prop := ∀ (w : World) (t x : Bs), Tm.deep t ≤ n → Calls Tryz.prog 15 #[St t, St x] w fun e w' => e = .returned (.bool (standsF x n t)) ∧ Below w.heap.size w w'
theorem kidsR_right {t k : Bs} (h : k ∈ kidsR t) : Tm.deep k < Tm.deep t := by
  unfold kidsR at h
  split at h
  · cases h
  · rename_i hd; exact (Tm.kids_right hd h).2.1
theorem kidsR_count (t : Bs) : (kidsR t).length ≤ 32 := by
  unfold kidsR
  split
  · simp
  · rename_i hd; exact Tm.kids_count hd

set_option maxRecDepth 100000 in
set_option maxHeartbeats 2000000 in
theorem stands_step {n : Nat} (w : World) (t x : Bs) (hS : ∀ (W : World) (k : Bs), k ∈ kidsR t → Calls Tryz.prog 15 #[St k, St x] W fun e w' => e = .returned (.bool (standsF x n k)) ∧ Below W.heap.size W w') :
    Calls Tryz.prog 15 #[St t, St x] w fun e w' => e = .returned (.bool (standsF x (n + 1) t)) ∧ Below w.heap.size w w' := by
  have HO := hid (fun W => kopen_any t W)
  have HKC := hid (kidsR_count t)
  have HA : Hid (∀ (W : World) (i : Nat) (hi : i < (kidsR t).length), Calls Tryz.prog 15 #[St (kidsR t)[i], St x] W fun e w' => e = .returned (.bool (standsF x n (kidsR t)[i])) ∧ Below W.heap.size W w') := hid (fun W i hi => hS W _ (List.getElem_mem hi))
  have HER : Hid (standsF x (n + 1) t = (t == x || (kidsR t).any (standsF x n))) := hid rfl
  clear hS
  generalize hks : kidsR t = ks at HO HKC HA HER
  clear hks
  go_enter Tryz.func15, Tryz.ntmps15
  go_wp2_with fail
  refine (HO.out _).mono ?_
  rintro e w1 ⟨c, tn, tx, kids, ok, rfl, hown, hb1⟩
  have HOW := hid hown
  have HB1 := hid hb1
  obtain ⟨ao, kc, rfl⟩ := own_shape hown
  clear hb1 hown HO
  by_cases htx : t = x
  · subst htx
    go_wp2_with fail
    go_ret
    exact ⟨by rw [HER.out]; simp, HB1.out.alloc HB1.out.size _⟩
  · have hne : (t == x) = false := by simpa using htx
    have HNE := hid hne
    go_wp2_with fail
    have HWX : Hid (Below w.heap.size w (w1.alloc (.cells #[.int .u8 c, .int .i64 tn, .string tx, .slice ao ks.length kc] 66))) := hid (HB1.out.alloc HB1.out.size _)
    have HOX := hid (HOW.out.alloc (.cells #[.int .u8 c, .int .i64 tn, .string tx, .slice ao ks.length kc] 66))
    have HCX : Hid (∀ W, Below (w1.heap.size + 1) (w1.alloc (.cells #[.int .u8 c, .int .i64 tn, .string tx, .slice ao ks.length kc] 66)) W → W.cell? ⟨w1.heap.size, 3, none⟩ = some (.slice ao ks.length kc)) := hid (fun W hb => by
      rw [cell_of_heap ((hb.block w1.heap.size (by omega)).trans (heap_alloc_new w1 _)) 3]; rfl)
    have HSX : Hid ((w1.alloc (.cells #[.int .u8 c, .int .i64 tn, .string tx, .slice ao ks.length kc] 66)).heap.size = w1.heap.size + 1) := by apply hid; simp
    generalize w1.alloc (.cells #[.int .u8 c, .int .i64 tn, .string tx, .slice ao ks.length kc] 66) = wX at HWX HOX HCX HSX ⊢
    clear HOW HB1
    obtain ⟨m, hm⟩ : ∃ m, m = ks.length := ⟨_, rfl⟩
    rw [← hm] at HCX ⊢
    have HML := hid hm
    have hmb : m ≤ 100000 := by have := HKC.out; omega
    clear hm
    go_loopg [7] m (fun gg v wr => ∃ i : Nat, i ≤ m ∧ gg = m - i ∧ v = .int .i64 (i : Int) ∧ Below wX.heap.size wX wr ∧ ∀ j (hj : j < ks.length), j < i → standsF x n ks[j] = false)
    case atStart => exact ⟨0, by omega, by omega, rfl, Below.refl _ _, fun j hj h => by omega⟩
    case round =>
      obtain ⟨i, hi, rfl, rfl, hbel, hall⟩ := hrel
      have HBE := hid hbel
      have HAL := hid hall
      have hpc := HCX.out wr (by rw [← HSX.out]; exact hbel)
      clear hbel hall
      by_cases hil : i < m
      · have hik : i < ks.length := by rw [← HML.out]; exact hil
        obtain ⟨g, kc', hv, hg1, hg2, hcs⟩ := row_cells HOX.out (by omega)
        cases hv
        have hcell := (HBE.out.cell (p := ⟨g, i, none⟩) hg2).trans (hcs i hik)
        have HCI := hid (HA.out wr i hik)
        generalize hki : ks[i] = ki at hcell HCI
        have HKI := hid hki
        clear hcs hki
        cases hmk : standsF x n ki
        · rw [hmk] at HCI
          go_wp2_with fail
          refine HCI.out.mono ?_
          rintro e w2 ⟨rfl, hb2⟩
          have HB2 := hid (two_below HBE.out hb2)
          clear hb2
          go_wp2_with fail
          go_roundg (m - (i + 1))
          case measure => omega
          case rel =>
            refine ⟨i + 1, by omega, rfl, by go_num, HB2.out, fun j hj hji => ?_⟩
            by_cases e : j = i
            · subst e; rw [HKI.out, hmk]
            · exact HAL.out j hj (by omega)
        · rw [hmk] at HCI
          go_wp2_with fail
          refine HCI.out.mono ?_
          rintro e w2 ⟨rfl, hb2⟩
          have HB2 := hid (two_below HBE.out hb2)
          clear hb2
          go_wp2_with fail
          go_ret
          refine ⟨?_, two_below HWX.out HB2.out⟩
          have e1 : ks.any (standsF x n) = true := by
            rw [List.any_eq_true]; exact ⟨ks[i], List.getElem_mem hik, by rw [HKI.out, hmk]⟩
          rw [HER.out, HNE.out, e1]; rfl
      · go_wp2_with fail
        go_ret
        refine ⟨?_, two_below HWX.out HBE.out⟩
        have e1 : ks.any (standsF x n) = false := by
          rw [List.any_eq_false]; intro k hk; obtain ⟨j, hj, rfl⟩ := List.getElem_of_mem hk; rw [HAL.out j hj (by have := HML.out; omega)]; simp
        rw [HER.out, HNE.out, e1]; rfl
theorem stands_all : ∀ n, StC n
  | 0 => fun w t x hd => by
    have hk : kidsR t = [] := by unfold kidsR; rw [if_pos (by omega)]
    have := stands_step (n := 0) w t x (fun W k h => by rw [hk] at h; cases h)
    have e : standsF x (0 + 1) t = standsF x 0 t := by simp [standsF, hk]
    rw [e] at this
    exact this
  | n + 1 => fun w t x hd => stands_step w t x (fun W k h => stands_all n W k x (by have := kidsR_right h; omega))
/-- what that answer means -/
theorem stands_iff {x : Bs} : ∀ (n : Nat) (t : Bs), Tm.deep t ≠ 0 → Tm.deep t ≤ n → (standsF x n t = true ↔ Stands x t)
  | 0, t, h, h0 => absurd (Nat.le_zero.1 h0) h
  | n + 1, t, h, hn => by
    have hk : kidsR t = Tm.kidsOf 63 t := by unfold kidsR; rw [if_neg h]
    have hik : ∀ k ∈ Tm.kidsOf 63 t, (standsF x n k = true ↔ Stands x k) := fun k hk => by
      have := Tm.kids_right h hk
      exact stands_iff n k this.1 (by omega)
    rw [standsF, hk, Bool.or_eq_true, List.any_eq_true]
    constructor
    · rintro (a | ⟨k, hk, a⟩)
      · rw [show t = x by simpa using a]; exact .here
      · exact .kid hk ((hik k hk).1 a)
    · intro a
      cases a with
      | here => left; simp
      | kid hk a => exact Or.inr ⟨_, hk, (hik _ hk).2 a⟩
end Go.Proofs.YtfnnhekjeobicaaGreatDoor

/- The makers of terms. -/
namespace Go.Proofs.YtfnnhekjeobicaaGreatDoor
open Go.RowKit

set_option maxHeartbeats 4000000 in
theorem build_any (op : UInt8) (head : Bs) (ks : List Bs) (kv : Value) (w : World) (hkv : Texts w kv ks) (hh : head.length ≤ 8192) (hn : ks.length ≤ 40) :
    Calls Tryz.prog 42 #[.int .u8 (op.toNat : Int), St head, kv] w fun en w' =>
      en = .returned (.tuple #[St (bRes op head ks).1, .int .i64 ((bRes op head ks).2 : Int)]) ∧ Below w.heap.size w w' := by
  obtain ⟨ao, cap, rfl, hcell⟩ := hkv
  have HC := hid hcell
  clear hcell
  have hsh : (⟨head.toArray⟩ : ByteArray).size = head.length := st_size head
  go_enter Tryz.func42, Tryz.ntmps42
  go_wp2_with fail
  go_loopg [8, 9, 21] ks.length (fun g dv sv iv wr => ∃ i : Nat, i ≤ ks.length ∧ g = ks.length - i ∧ iv = .int .i64 i ∧ dv = .int .i64 (bDeep (ks.take i)) ∧ sv = .int .i64 ((1 + head.length + bSize (ks.take i) : Nat) : Int) ∧ bDeep (ks.take i) ≤ 65 ∧ bSize (ks.take i) ≤ 16384 * i ∧ (ks.take i).any (fun k => Tm.deep k == 0) = false ∧ Below w.heap.size w wr)
  case atStart =>
    refine ⟨0, Nat.zero_le _, rfl, rfl, rfl, ?_, by simp [bDeep], by simp [bSize], by simp, Below.refl _ _⟩
    simp [bSize]
  case round =>
    obtain ⟨i, hi, rfl, rfl, rfl, rfl, hd1, hs1, hany, hbl⟩ := hrel
    generalize hD : bDeep (ks.take i) = D at *
    generalize hS : bSize (ks.take i) = S at *
    have HD := hid hD
    have HS := hid hS
    have HA := hid hany
    have HL := hid hbl
    clear hD hS hany
    by_cases hlt : i < ks.length
    · obtain ⟨g, o, rfl, hg, hc⟩ := HC.out (by intro e; rw [e] at hlt; simp at hlt)
      have hci : wr.cell? ⟨g, o + i, none⟩ = some (St ks[i]) := by
        rw [hbl.cell (p := ⟨g, o + i, none⟩) hg]; exact hc i hlt
      clear hc hbl
      have hlt' : (i : Int) < (ks.length : Int) := by omega
      go_wp2_with fail
      refine (deep_list ks[i] _).mono ?_
      rintro e w1 ⟨rfl, hb⟩
      have HL1 := hid (HL.out.trans (hb.mono HL.out.size))
      clear hb
      have hle64 := Tm.deep_le ks[i]
      have hTS := take_succ' ks i hlt
      by_cases hz : Tm.deep ks[i] = 0
      · have HZ := hid hz
        have HR : Hid (bRes op head ks = ([], 10)) := by apply hid; unfold bRes; rw [if_pos (any_take hlt hz)]
        clear hTS
        rw [hz]
        clear hz
        go_wp2_with fail
        go_ret2
        exact ⟨by rw [HR.out]; rfl, HL1.out⟩
      · have hl16 := (Tm.deep_is hz).2
        have hsk : (⟨ks[i].toArray⟩ : ByteArray).size = ks[i].length := st_size ks[i]
        have HD2 : Hid (bDeep (ks.take (i + 1)) = max D (Tm.deep ks[i] + 1)) := by apply hid; rw [hTS, bDeep_snoc, HD.out]
        have HS2 : Hid (bSize (ks.take (i + 1)) = S + ks[i].length) := by apply hid; rw [hTS, bSize_snoc, HS.out]
        have HA2 : Hid ((ks.take (i + 1)).any (fun k => Tm.deep k == 0) = false) := by
          apply hid
          rw [hTS, List.any_append, HA.out]
          simp [hz]
        clear hTS
        generalize hdd : Tm.deep ks[i] = d at *
        generalize hll : ks[i].length = m at *
        have hz' : ((d : Int) == 0) = false := by simp; omega
        clear hdd hll hz
        by_cases hDd : D ≤ d
        · go_wp2_with fail
          go_roundg (ks.length - (i + 1))
          case measure => omega
          case rel =>
            refine ⟨i + 1, by omega, rfl, by simp, ?_, ?_, ?_, ?_, HA2.out, HL1.out⟩
            · rw [HD2.out, show max D (d + 1) = d + 1 by omega]; simp
            · rw [HS2.out]; simp; omega
            · rw [HD2.out]; omega
            · rw [HS2.out]; omega
        · go_wp2_with fail
          go_roundg (ks.length - (i + 1))
          case measure => omega
          case rel =>
            refine ⟨i + 1, by omega, rfl, by simp, ?_, ?_, ?_, ?_, HA2.out, HL1.out⟩
            · rw [HD2.out, show max D (d + 1) = D by omega]
            · rw [HS2.out]; simp; omega
            · rw [HD2.out]; omega
            · rw [HS2.out]; omega
    · have hik : i = ks.length := by omega
      subst hik
      have HTL : Hid (ks.take ks.length = ks) := by apply hid; simp
      have HANY : Hid (ks.any (fun k => Tm.deep k == 0) = false) := by have := HA.out; rw [HTL.out] at this; exact this
      have hDk : bDeep ks = D := by have := HD.out; rw [HTL.out] at this; exact this
      have hSk : bSize ks = S := by have := HS.out; rw [HTL.out] at this; exact this
      have HDK := hid hDk
      have HSK := hid hSk
      clear hDk hSk
      by_cases hbig : 64 < D ∨ 16384 < 1 + head.length + S
      · have HR : Hid (bRes op head ks = ([], 3)) := by
          apply hid; unfold bRes; rw [HANY.out, HDK.out, HSK.out, if_neg (by simp), if_pos hbig]
        rcases hbig with hbig | hbig
        · have h1' : (64 : Int) < (D : Int) := by omega
          go_wp2_with fail
          go_ret2
          exact ⟨by rw [HR.out]; rfl, HL.out⟩
        · by_cases h64 : 64 < D
          · have h1' : (64 : Int) < (D : Int) := by omega
            go_wp2_with fail
            go_ret2
            exact ⟨by rw [HR.out]; rfl, HL.out⟩
          · have h1' : ¬ (64 : Int) < (D : Int) := by omega
            have h2' : (16384 : Int) < 1 + (head.length : Int) + (S : Int) := by omega
            go_wp2_with fail
            go_ret2
            exact ⟨by rw [HR.out]; rfl, HL.out⟩
      · have h1' : ¬ (64 : Int) < (D : Int) := by omega
        have h2' : ¬ (16384 : Int) < 1 + (head.length : Int) + (S : Int) := by omega
        have HR : Hid (bRes op head ks = (op :: (head ++ ks.flatten), 0)) := by
          apply hid; unfold bRes; rw [HANY.out, HDK.out, HSK.out, if_neg (by simp), if_neg hbig]
        clear hbig
        obtain ⟨i0, hi0, hz0, hz1, hz2⟩ := info_parts Tryz.info5
        have HmC : Hid ((1 + (head.length : Int) + (S : Int)) = ((1 + head.length + S : Nat) : Int)) := by apply hid; omega
        have Hb2 : Hid (i0.bytes * (1 + head.length + S) ≤ 281474976710656) := by apply hid; rw [hz2]; omega
        have Hb3 : Hid (1 + head.length + S ≤ maxLen) := by apply hid; unfold maxLen; omega
        have hsz := HL.out.size
        have hci := HC.out
        have HCI := hid hci
        clear hci
        have ho1 : ∀ u ∈ [Value.int .u8 (op.toNat : Int)], u.oneCell' = true := by intro u hu; simp at hu; subst hu; rfl
        have Hm1 : Hid (0 + 1 ≤ maxLen) := by apply hid; unfold maxLen; omega
        have Hm2 : Hid (0 + 1 + (⟨head.toArray⟩ : ByteArray).size ≤ maxLen) := by apply hid; unfold maxLen; rw [st_size]; omega
        have Hm3 : Hid (0 + 1 + (⟨head.toArray⟩ : ByteArray).size ≤ 140737488355328) := by apply hid; rw [st_size]; omega
        go_wp2_with (first | (at_make; refine wpList_make_own _ rfl _ (.tmp 45) 82 rfl w.heap.size 5 i0 (.int .u8 0) 1 Tryz.underlying82 hi0 hz0 hz1 .i64 .i64 _ (1 + head.length + S) rfl rfl HmC.out Hb2.out Hb3.out hsz ?_; intro w2 hown2 hg2; have HO2 := hid hown2; have HG2 := hid hg2; have hs2 := hg2.size; clear hown2 hg2) | (at_builtin; refine wpList_append_own _ rfl (.tmp 47) (.tmp 49) 82 rfl w.heap.size 5 i0 (.int .u8 0) 1 1 Tryz.underlying82 hi0 hz0 hz1 hz2 rfl (by decide) _ 0 [] rfl (World.ownsRow.alloc HO2.out _) ⟨w2.heap.size, 0, none⟩ 1 1 [.int .u8 (op.toNat : Int)] rfl rfl (cell_one_new _ _ _) ho1 Hm1.out (by omega) (by simp; omega) ?_; intro v3 w3 hown3 hg3 _; have HO3 := hid hown3; have HG3 := hid hg3; have hs3 := hg3.size; simp at hs3; clear hown3 hg3) | (at_builtin; refine Lib.wpList_append_own_string _ rfl (.tmp 51) (.tmp 52) 82 9 rfl w.heap.size 5 i0 Tryz.underlying82 Tryz.underlying9 hi0 hz0 hz1 hz2 v3 (0 + 1) _ rfl HO3.out ⟨head.toArray⟩ rfl Hm2.out Hm3.out (by omega) ?_; intro v4 w4 hown4 hg4 _; have HO4 := hid hown4; have HG4 := hid hg4; have hs4 := hg4.size; clear hown4 hg4))
        have hb4 : Below w.heap.size w w4 := by
          have b2 := HL.out.grown HG2.out hsz (fun k h => by cases h)
          have b2' := b2.alloc (o := .cells #[.int .u8 (op.toNat : Int)] 5) b2.size
          have b3 := b2'.grown HG3.out b2'.size (own_block_ge (HO2.out))
          exact b3.grown HG4.out b3.size (own_block_ge HO3.out)
        have ho4 : w4.ownsRow w.heap.size 5 1 v4 (1 + head.length + bSize (ks.take 0)) (bcs (op :: (head ++ (ks.take 0).flatten))) := by
          have := HO4.out
          rw [strCells_bcs, st_size] at this
          have e : ([] ++ [Value.int .u8 (op.toNat : Int)]) ++ bcs head = bcs (op :: (head ++ (ks.take 0).flatten)) := by simp [Lib.byteCells]
          rw [e] at this
          simpa [bSize] using this
        have HB4 := hid hb4
        have HO4' := hid ho4
        clear hb4 ho4
        go_loopg [13, 56] ks.length (fun g ov iv wr => ∃ i : Nat, i ≤ ks.length ∧ g = ks.length - i ∧ iv = .int .i64 i ∧ wr.ownsRow w.heap.size 5 1 ov (1 + head.length + bSize (ks.take i)) (bcs (op :: (head ++ (ks.take i).flatten))) ∧ Below w.heap.size w wr)
        case atStart => exact ⟨0, Nat.zero_le _, rfl, rfl, HO4'.out, HB4.out⟩
        case round =>
          obtain ⟨j, hj, rfl, rfl, hown, hbl⟩ := hrel
          have HOW := hid hown
          have HBL := hid hbl
          have hszr := hbl.size
          by_cases hlt2 : j < ks.length
          · obtain ⟨g, o, rfl, hg, hc⟩ := HCI.out (by intro e; rw [e] at hlt2; simp at hlt2)
            have hcj : wr.cell? ⟨g, o + j, none⟩ = some (St ks[j]) := by
              rw [hbl.cell (p := ⟨g, o + j, none⟩) hg]; exact hc j hlt2
            have hlt' : (j : Int) < (ks.length : Int) := by omega
            have hle2 := bSize_take ks (j + 1)
            have hTS := take_succ' ks j hlt2
            rw [hTS, bSize_snoc, HSK.out] at hle2
            have HS2 : Hid (bSize (ks.take (j + 1)) = bSize (ks.take j) + ks[j].length) := by apply hid; rw [hTS, bSize_snoc]
            have HF2 : Hid ((ks.take (j + 1)).flatten = (ks.take j).flatten ++ ks[j]) := by apply hid; rw [hTS, flat_snoc]
            have Hn2 : Hid (1 + head.length + bSize (ks.take j) + (⟨ks[j].toArray⟩ : ByteArray).size ≤ maxLen) := by apply hid; unfold maxLen; rw [st_size]; omega
            have Hn3 : Hid (1 + head.length + bSize (ks.take j) + (⟨ks[j].toArray⟩ : ByteArray).size ≤ 140737488355328) := by apply hid; rw [st_size]; omega
            clear hc hbl hown hTS
            go_wp2_with (at_builtin; refine Lib.wpList_append_own_string _ rfl (.tmp 60) (.tmp 61) 82 29 rfl w.heap.size 5 i0 Tryz.underlying82 Tryz.underlying29 hi0 hz0 hz1 hz2 _ _ _ rfl HOW.out ⟨ks[j].toArray⟩ rfl Hn2.out Hn3.out hszr ?_; intro v5 w5 hown5 hg5 _; have HO5 := hid hown5; have HG5 := hid hg5; clear hown5 hg5)
            go_roundg (ks.length - (j + 1))
            case measure => omega
            case rel =>
              refine ⟨j + 1, by omega, rfl, by simp, ?_, HBL.out.grown HG5.out hszr (own_block_ge HOW.out)⟩
              have := HO5.out
              rw [strCells_bcs, st_size, bcs_app] at this
              rw [HS2.out, HF2.out]
              have e : op :: (head ++ (ks.take j).flatten) ++ ks[j] = op :: (head ++ ((ks.take j).flatten ++ ks[j])) := by simp
              rw [e] at this
              simpa [Nat.add_assoc] using this
          · have hjk : j = ks.length := by omega
            subst hjk
            obtain ⟨L, hL⟩ : ∃ L, L = op :: (head ++ ks.flatten) := ⟨_, rfl⟩
            rw [List.take_length, ← hL] at hown
            obtain ⟨g, cp, rfl, hcv⟩ := own_string hown (by rw [hL]; simp)
            have hcv1 := hcv 29 Tryz.underlying29
            have HR2 : Hid (bRes op head ks = (L, 0)) := by apply hid; rw [HR.out, hL]
            clear hown hbl hcv hL HR
            go_wp2_with fail
            go_ret2
            exact ⟨by rw [HR2.out]; rfl, HBL.out⟩

set_option maxHeartbeats 400000 in
theorem child_any (a b : Bs) (w : World) : Calls Tryz.prog 34 #[St a, St b] w fun en w' => en = made (bRes 68 [] [a, b]) ∧ Below w.heap.size w w' := by
  go_enter Tryz.func34, Tryz.ntmps34
  go_wp2_with fail
  refine (build_any 68 [] [a, b] _ _ (texts_two w a b) (by simp) (by simp)).mono ?_
  rintro e w1 ⟨rfl, hb⟩
  have HB := hid (((Below.refl _ w).alloc (Nat.le_refl _) (.cells #[St a, St b] 29)).trans (hb.mono (by simp)))
  clear hb
  go_wp2_with fail
  go_ret2
  exact ⟨rfl, HB.out⟩

set_option maxHeartbeats 400000 in
theorem join_any (a b : Bs) (w : World) : Calls Tryz.prog 35 #[St a, St b] w fun en w' => en = made (bRes 86 [] [a, b]) ∧ Below w.heap.size w w' := by
  go_enter Tryz.func35, Tryz.ntmps35
  go_wp2_with fail
  refine (build_any 86 [] [a, b] _ _ (texts_two w a b) (by simp) (by simp)).mono ?_
  rintro e w1 ⟨rfl, hb⟩
  have HB := hid (((Below.refl _ w).alloc (Nat.le_refl _) (.cells #[St a, St b] 29)).trans (hb.mono (by simp)))
  clear hb
  go_wp2_with fail
  go_ret2
  exact ⟨rfl, HB.out⟩

set_option maxHeartbeats 400000 in
theorem bind_any (a b : Bs) (w : World) : Calls Tryz.prog 36 #[St a, St b] w fun en w' => en = made (bRes 75 [] [a, b]) ∧ Below w.heap.size w w' := by
  go_enter Tryz.func36, Tryz.ntmps36
  go_wp2_with fail
  refine (build_any 75 [] [a, b] _ _ (texts_two w a b) (by simp) (by simp)).mono ?_
  rintro e w1 ⟨rfl, hb⟩
  have HB := hid (((Below.refl _ w).alloc (Nat.le_refl _) (.cells #[St a, St b] 29)).trans (hb.mono (by simp)))
  clear hb
  go_wp2_with fail
  go_ret2
  exact ⟨rfl, HB.out⟩

set_option maxHeartbeats 400000 in
theorem sign_any (a b : Bs) (w : World) : Calls Tryz.prog 33 #[St a, St b] w fun en w' => en = made (bRes 83 [] [a, b]) ∧ Below w.heap.size w w' := by
  go_enter Tryz.func33, Tryz.ntmps33
  go_wp2_with fail
  refine (build_any 83 [] [a, b] _ _ (texts_two w a b) (by simp) (by simp)).mono ?_
  rintro e w1 ⟨rfl, hb⟩
  have HB := hid (((Below.refl _ w).alloc (Nat.le_refl _) (.cells #[St a, St b] 29)).trans (hb.mono (by simp)))
  clear hb
  go_wp2_with fail
  go_ret2
  exact ⟨rfl, HB.out⟩

set_option maxHeartbeats 400000 in
theorem box_any (a b : Bs) (w : World) : Calls Tryz.prog 17 #[St a, St b] w fun en w' => en = made (bRes 66 [] [a, b]) ∧ Below w.heap.size w w' := by
  go_enter Tryz.func17, Tryz.ntmps17
  go_wp2_with fail
  refine (build_any 66 [] [a, b] _ _ (texts_two w a b) (by simp) (by simp)).mono ?_
  rintro e w1 ⟨rfl, hb⟩
  have HB := hid (((Below.refl _ w).alloc (Nat.le_refl _) (.cells #[St a, St b] 29)).trans (hb.mono (by simp)))
  clear hb
  go_wp2_with fail
  go_ret2
  exact ⟨rfl, HB.out⟩

set_option maxHeartbeats 400000 in
theorem hash_any (a : Bs) (w : World) : Calls Tryz.prog 18 #[St a] w fun en w' => en = made (bRes 72 [] [a]) ∧ Below w.heap.size w w' := by
  go_enter Tryz.func18, Tryz.ntmps18
  go_wp2_with fail
  refine (build_any 72 [] [a] _ _ (texts_one w a) (by simp) (by simp)).mono ?_
  rintro e w1 ⟨rfl, hb⟩
  have HB := hid (((Below.refl _ w).alloc (Nat.le_refl _) (.cells #[St a] 29)).trans (hb.mono (by simp)))
  clear hb
  go_wp2_with fail
  go_ret2
  exact ⟨rfl, HB.out⟩


end Go.Proofs.YtfnnhekjeobicaaGreatDoor
