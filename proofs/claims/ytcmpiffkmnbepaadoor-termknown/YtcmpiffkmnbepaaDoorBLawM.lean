/- What TermBack answers where both are right terms. -/
import Derived.Test.YtcmpiffkmnbepaaDoorBLaw
import Derived.Deep.RegionHeld3
namespace Go.Proofs.YtcmpiffkmnbepaaDoor
open Go.RowKit

/-- the four things that are made -/
structure Four (a b : Bs) (ts : List Bs) (ns : List Nat) : Prop where
  lt : ts.length = 4
  ln : ns.length = 4
  each : ∀ i (h1 : i < ts.length) (h2 : i < ns.length), Made a b (ts[i], ns[i]) ∧ (ns[i] = 0 → ∀ k (h : k < i), ts[k] ≠ ts[i])

theorem Made.head {a b : Bs} {t : Bs} {n : Nat} {op : UInt8} (h : Made a b (t, n)) (hh : n = 0 → t.head? = some op) : t.head? = none ∨ t.head? = some op := by
  rcases h with h | h
  · left; have := congrArg Prod.fst h; simp at this; rw [this]; rfl
  · right; exact hh h.1

theorem four_of {a b : Bs} {t0 t1 t2 t3 : Bs} {n0 n1 n2 n3 : Nat} (m0 : Made a b (t0, n0)) (m1 : Made a b (t1, n1)) (m2 : Made a b (t2, n2)) (m3 : Made a b (t3, n3))
    (h0 : n0 = 0 → t0.head? = some 68) (h1 : n1 = 0 → t1.head? = some 86) (h2 : n2 = 0 → t2.head? = some 66) (h3 : n3 = 0 → t3.head? = some 84) : Four a b [t0, t1, t2, t3] [n0, n1, n2, n3] := by
  have g0 := m0.head h0
  have g1 := m1.head h1
  have g2 := m2.head h2
  refine ⟨rfl, rfl, fun i hi hi2 => ?_⟩
  match i, hi with
  | 0, _ => exact ⟨m0, fun _ k hk => by omega⟩
  | 1, _ =>
    refine ⟨m1, fun hz k hk => ?_⟩
    have e := h1 hz
    match k, hk with
    | 0, _ => intro h; have h : t0 = t1 := h; rw [h] at g0; rw [e] at g0; simp at g0
  | 2, _ =>
    refine ⟨m2, fun hz k hk => ?_⟩
    have e := h2 hz
    match k, hk with
    | 0, _ => intro h; have h : t0 = t2 := h; rw [h] at g0; rw [e] at g0; simp at g0
    | 1, _ => intro h; have h : t1 = t2 := h; rw [h] at g1; rw [e] at g1; simp at g1
  | 3, _ =>
    refine ⟨m3, fun hz k hk => ?_⟩
    have e := h3 hz
    match k, hk with
    | 0, _ => intro h; have h : t0 = t3 := h; rw [h] at g0; rw [e] at g0; simp at g0
    | 1, _ => intro h; have h : t1 = t3 := h; rw [h] at g1; rw [e] at g1; simp at g1
    | 2, _ => intro h; have h : t2 = t3 := h; rw [h] at g2; rw [e] at g2; simp at g2

/-- what stays while the four are looked at -/
structure BK (w : World) (mb : Nat) (ts : List Bs) (ns : List Nat) (wr : World) : Prop where
  bel : Below w.heap.size w wr
  hm : wr.heap[mb]? = some (.cells (ts.map St).toArray 22 (0, 0))
  hz : wr.heap[mb + 1]? = some (.cells (ns.map (fun n : Nat => Value.int .i64 (n : Int))).toArray 33 (0, 0))
  lm : w.heap.size ≤ mb ∧ mb + 1 < wr.heap.size

theorem BK.below {w : World} {mb : Nat} {ts : List Bs} {ns : List Nat} {wr w2 : World} (h : BK w mb ts ns wr) (hb : Below wr.heap.size wr w2) : BK w mb ts ns w2 := by
  obtain ⟨h1, h2, h3, h4⟩ := h
  exact ⟨h1.trans (hb.mono h1.size), by rw [hb.block _ (by omega)]; exact h2, by rw [hb.block _ (by omega)]; exact h3, h4.1, Nat.lt_of_lt_of_le h4.2 hb.size⟩

theorem BK.cell {w : World} {mb : Nat} {ts : List Bs} {ns : List Nat} {wr : World} (h : BK w mb ts ns wr) (i : Nat) (h1 : i < ts.length) (h2 : i < ns.length) :
    wr.cell? ⟨mb, i, none⟩ = some (St ts[i]) ∧ wr.cell? ⟨mb + 1, i, none⟩ = some (.int .i64 (ns[i] : Int)) := by
  refine ⟨?_, ?_⟩
  · rw [cell_of_heap h.hm]; simp [h1]
  · rw [cell_of_heap h.hz]; simp [h2]

theorem below_alloc_self (w : World) (o : Obj) : Below w.heap.size w (w.alloc o) := (Below.refl _ w).alloc (Nat.le_refl _) o

theorem tuple_two (a b : Bs) (w : World) : Calls Tryd.prog 25 #[.slice (some ⟨w.heap.size, 0, none⟩) 2 2] (w.alloc (.cells #[St a, St b] 22)) fun en w' => en = made (bRes 84 [50, 58] [a, b]) ∧ Below w.heap.size w w' := by
  refine (tuple_digit [a, b] _ _ (texts_two w a b) (by simp)).mono ?_
  rintro e w' ⟨he, hb⟩
  exact ⟨he, (below_alloc_self w _).trans (hb.mono (by simp))⟩

theorem size_list (l : Bs) (w : World) (hd : Tm.deep l ≠ 0) : Calls Tryd.prog 16 #[St l] w fun en w' => en = .returned (.int .i64 (l.length : Int)) ∧ Below w.heap.size w w' := by
  refine (size_any ⟨l.toArray⟩ w).mono ?_
  rintro e w' ⟨he, hb⟩
  refine ⟨?_, hb⟩
  rw [he, st_list, if_neg hd, st_size]

/-- what one of the four is looked at with -/
structure SS (w : World) (mb : Nat) (ts : List Bs) (ns : List Nat) (i pb g : Nat) (t a b : Bs) (kv : Value) (W : World) : Prop where
  bk : BK w mb ts ns W
  cm : W.cell? ⟨mb, i, none⟩ = some (St t)
  p3 : W.cell? ⟨pb, 3, none⟩ = some kv
  k0 : W.cell? ⟨g, 0, none⟩ = some (St a)
  k1 : W.cell? ⟨g, 1, none⟩ = some (St b)
  sz : pb < W.heap.size ∧ g < W.heap.size ∧ mb < W.heap.size

theorem SS.below {w : World} {mb : Nat} {ts : List Bs} {ns : List Nat} {i pb g : Nat} {t a b : Bs} {kv : Value} {W W' : World} (h : SS w mb ts ns i pb g t a b kv W) (hb : Below W.heap.size W W') : SS w mb ts ns i pb g t a b kv W' :=
  ⟨h.bk.below hb, (hb.cell (p := ⟨mb, i, none⟩) h.sz.2.2).trans h.cm, (hb.cell (p := ⟨pb, 3, none⟩) h.sz.1).trans h.p3, (hb.cell (p := ⟨g, 0, none⟩) h.sz.2.1).trans h.k0, (hb.cell (p := ⟨g, 1, none⟩) h.sz.2.1).trans h.k1,
    Nat.lt_of_lt_of_le h.sz.1 hb.size, Nat.lt_of_lt_of_le h.sz.2.1 hb.size, Nat.lt_of_lt_of_le h.sz.2.2 hb.size⟩
theorem SS.below' {w : World} {mb : Nat} {ts : List Bs} {ns : List Nat} {i pb g : Nat} {t a b : Bs} {kv : Value} {W W' : World} (h : SS w mb ts ns i pb g t a b kv W) (hb : Below W.drew.heap.size W.drew W') : SS w mb ts ns i pb g t a b kv W' :=
  h.below ⟨hb.os, hb.tape, hb.output, hb.size, hb.block⟩

theorem SS.drewN {w : World} {mb : Nat} {ts : List Bs} {ns : List Nat} {i pb g : Nat} {t a b : Bs} {kv : Value} {W : World} (h : SS w mb ts ns i pb g t a b kv W) (n : Nat) : SS w mb ts ns i pb g t a b kv (W.drewN n) :=
  h.below ⟨rfl, rfl, rfl, Nat.le_refl _, fun _ _ => rfl⟩

theorem open_yes' (t : Bs) (c : UInt8) (l : Bs) (w : World) (ht : t = c :: l) (hd : Tm.deep t ≠ 0) :
    Calls Tryd.prog 12 #[St t] w fun en w' => ∃ kids, en = .returned (.tuple #[.agg #[.int .u8 (c.toNat : Int), .int .i64 (setN t 0), .string (setX t ⟨#[]⟩), kids], .bool true]) ∧
      w'.ownsRow w.heap.size 22 1 kids (Tm.kidsOf 63 t).length ((Tm.kidsOf 63 t).map St) ∧ Below w.heap.size w w' := by
  subst ht
  exact open_yes c l w hd

set_option maxHeartbeats 8000000 in
set_option maxRecDepth 100000 in
theorem back_main (a b : Bs) (w : World) (ha : Tm.deep a ≠ 0) (hb0 : Tm.deep b ≠ 0) (hs1 : a.length ≤ 20000) (hs2 : b.length ≤ 20000) :
    Calls Tryd.prog 7 #[St a, St b] w fun en w' => en = .returned (.bool true) ∧ Below w.heap.size w w' := by
  have e1 : (⟨a.toArray⟩ : ByteArray).size = a.length := st_size a
  have e2 : (⟨b.toArray⟩ : ByteArray).size = b.length := st_size b
  have hs1' : ¬ (20000 : Int) < (a.length : Int) := by omega
  have hs2' : ¬ (20000 : Int) < (b.length : Int) := by omega
  have HA : Hid ((Tm.deep a != 0) = true) := by apply hid; simpa using ha
  have HB0 : Hid ((Tm.deep b != 0) = true) := by apply hid; simpa using hb0
  obtain ⟨m0, g0⟩ := made_of (op := 68) (by decide) ha hb0
  obtain ⟨m1, g1⟩ := made_of (op := 86) (by decide) ha hb0
  obtain ⟨m2, g2⟩ := made_of (op := 66) (by decide) ha hb0
  obtain ⟨m3, g3⟩ := made_pair ha hb0
  generalize hr0 : bRes 68 [] [a, b] = r0 at *
  generalize hr1 : bRes 86 [] [a, b] = r1 at *
  generalize hr2 : bRes 66 [] [a, b] = r2 at *
  generalize hr3 : bRes 84 [50, 58] [a, b] = r3 at *
  obtain ⟨t0, n0⟩ := r0
  obtain ⟨t1, n1⟩ := r1
  obtain ⟨t2, n2⟩ := r2
  obtain ⟨t3, n3⟩ := r3
  have HF := hid (four_of m0 m1 m2 m3 g0 g1 g2 g3)
  have R0 := hid hr0
  have R1 := hid hr1
  have R2 := hid hr2
  have R3 := hid hr3
  clear m0 m1 m2 m3 g0 g1 g2 g3 hr0 hr1 hr2 hr3 ha hb0
  go_enter Tryd.func7, Tryd.ntmps7
  go_wp2_with fail
  refine (right_list a _).mono ?_
  rintro e w1 ⟨rfl, hb⟩
  have HB1 := hid hb
  clear hb
  rw [HA.out]
  go_wp2_with fail
  refine (right_list b _).mono ?_
  rintro e w2 ⟨rfl, hb⟩
  have HB2 := hid (HB1.out.trans (hb.mono HB1.out.size))
  clear hb HB1
  rw [HB0.out]
  go_wp2_with fail
  refine (child_any a b _).mono ?_
  rintro e w3 ⟨rfl, hb⟩
  have HB3 := hid (HB2.out.trans (hb.mono HB2.out.size))
  clear hb HB2
  rw [R0.out]
  go_wp2_with fail
  refine (join_any a b _).mono ?_
  rintro e w4 ⟨rfl, hb⟩
  have HB4 := hid (HB3.out.trans (hb.mono HB3.out.size))
  clear hb HB3
  rw [R1.out]
  go_wp2_with fail
  refine (box_any a b _).mono ?_
  rintro e w5 ⟨rfl, hb⟩
  have HB5 := hid (HB4.out.trans (hb.mono HB4.out.size))
  clear hb HB4
  rw [R2.out]
  go_wp2_with fail
  refine (tuple_two a b _).mono ?_
  rintro e w6 ⟨rfl, hb⟩
  have HB6 := hid (HB5.out.trans (hb.mono HB5.out.size))
  clear hb HB5
  rw [R3.out]
  go_wp2_with fail
  have HBK : Hid (BK w w6.heap.size [t0, t1, t2, t3] [n0, n1, n2, n3] ((w6.alloc (.cells #[St t0, St t1, St t2, St t3] 22)).alloc (.cells #[.int .i64 (n0 : Int), .int .i64 (n1 : Int), .int .i64 (n2 : Int), .int .i64 (n3 : Int)] 33))) := by
    have h6 := HB6.out
    refine ⟨(h6.alloc h6.size _).alloc (by have := h6.size; simp; omega) _, ?_, ?_, h6.size, by simp⟩
    · rw [Below.heap_alloc _ _ _ (by simp)]; exact heap_alloc_new w6 _
    · have := heap_alloc_new (w6.alloc (.cells #[St t0, St t1, St t2, St t3] 22)) (.cells #[.int .i64 (n0 : Int), .int .i64 (n1 : Int), .int .i64 (n2 : Int), .int .i64 (n3 : Int)] 33)
      simpa using this
  generalize hts : [t0, t1, t2, t3] = ts at *
  generalize hns : [n0, n1, n2, n3] = ns at *
  clear hts hns
  go_loopg [74] 4 (fun g iv wr => ∃ i : Nat, i ≤ 4 ∧ g = 4 - i ∧ iv = .int .i64 i ∧ BK w w6.heap.size ts ns wr)
  case atStart => exact ⟨0, by omega, rfl, rfl, HBK.out⟩
  case round =>
    obtain ⟨i, hi, rfl, rfl, hbk⟩ := hrel
    by_cases hlt : i < 4
    · have hlt' : (i : Int) < 4 := by omega
      have h1 : i < ts.length := by rw [HF.out.lt]; exact hlt
      have h2 : i < ns.length := by rw [HF.out.ln]; exact hlt
      obtain ⟨cm, cz⟩ := hbk.cell i h1 h2
      obtain ⟨hmade, hdist⟩ := HF.out.each i h1 h2
      have hdist' : ns[i] = 0 → ∀ k, k < i → ∀ wx, BK w w6.heap.size ts ns wx → ∃ tk, wx.cell? ⟨w6.heap.size, k, none⟩ = some (St tk) ∧ (tk == ts[i]) = false := by
        intro hz k hk wx hwx
        refine ⟨ts[k]'(by omega), (hwx.cell k (by omega) (by omega)).1, ?_⟩
        simpa using hdist hz k hk
      have HDI := hid hdist'
      have HC : Hid (∀ wx, BK w w6.heap.size ts ns wx → wx.cell? ⟨w6.heap.size, i, none⟩ = some (St ts[i])) := fun wx hwx => (hwx.cell i h1 h2).1
      have HBKi := hid hbk
      clear hbk hdist hdist'
      generalize ts[i] = t at *
      generalize ns[i] = z at *
      rcases hmade with hmade | ⟨hz0, c, l, hcl, hdeep, hkids⟩
      · obtain ⟨rfl, rfl⟩ := Prod.mk.inj hmade
        clear hmade
        go_wp2_with fail
        refine (open_no [] _ rfl).mono ?_
        rintro e w7 ⟨rfl, hb⟩
        have HB7 := hid (HBKi.out.below hb)
        have HC7 := HC.out _ HB7.out
        have hsz7 := hid hb
        clear hb
        have hl6 : w6.heap.size < w7.heap.size := by have := HB7.out.lm.2; omega
        have HC8 : ∀ o, (w7.alloc o).cell? ⟨w6.heap.size, i, none⟩ = some (St []) := fun o => HC.out _ (HB7.out.below (below_alloc_self _ _))
        go_wp2_with fail
        go_roundg (4 - (i + 1))
        case measure => omega
        case rel => exact ⟨i + 1, by omega, rfl, by simp, HB7.out.below (below_alloc_self _ _)⟩
      · have hz0' : z = 0 := hz0
        subst hz0'
        have hcl' : t = c :: l := hcl
        have HCL := hid hcl'
        have et : (⟨t.toArray⟩ : ByteArray).size = t.length := st_size t
        clear hz0 hcl hcl'
        have hdd : Tm.deep t = max (Tm.deep a) (Tm.deep b) + 1 := hdeep
        have hkk : Tm.kidsOf 63 t = [a, b] := hkids
        have HDD := hid hdd
        have HKK := hid hkk
        have HNZ : Hid (Tm.deep t ≠ 0) := by apply hid; rw [hdd]; omega
        clear hdeep hkids hdd hkk
        go_wp2_with fail
        refine (open_yes' t c l _ HCL.out HNZ.out).mono ?_
        rintro e w7 ⟨kids, rfl, hown, hb⟩
        rw [HKK.out] at hown
        obtain ⟨g0, cap, rfl, gc0, gc1, gs⟩ := own_two hown
        have HB7 := hid (HBKi.out.below hb)
        clear hb hown
        have hl6 : w6.heap.size < w7.heap.size := by have := HB7.out.lm.2; omega
        have hxv : ∃ X : ByteArray, X = setX t ⟨#[]⟩ := ⟨_, rfl⟩
        have hnv : ∃ N : Int, N = setN t 0 := ⟨_, rfl⟩
        obtain ⟨X, hX⟩ := hxv
        obtain ⟨N, hN⟩ := hnv
        rw [← hX, ← hN]
        clear hX hN
        obtain ⟨W, hW⟩ : ∃ W, W = w7.alloc (.cells #[.int .u8 (c.toNat : Int), .int .i64 N, .string X, .slice (some ⟨g0, 0, none⟩) 2 cap] 25) := ⟨_, rfl⟩
        have hss : SS w w6.heap.size ts ns i w7.heap.size g0 t a b (.slice (some ⟨g0, 0, none⟩) 2 cap) W := by
          have hb7 := below_alloc_self w7 (.cells #[.int .u8 (c.toNat : Int), .int .i64 N, .string X, .slice (some ⟨g0, 0, none⟩) 2 cap] 25)
          rw [hW]
          refine ⟨HB7.out.below hb7, HC.out _ (HB7.out.below hb7), ?_, (hb7.cell (p := ⟨g0, 0, none⟩) gs).trans gc0, (hb7.cell (p := ⟨g0, 1, none⟩) gs).trans gc1, by simp, by simp; omega, by simp; omega⟩
          rw [cell_of_heap (heap_alloc_new w7 _)]; rfl
        have HRT : Hid ((Tm.deep t != 0) = true) := by apply hid; simpa using HNZ.out
        by_cases hle : Tm.deep a < Tm.deep b
        · have HDM : Hid ((Tm.deep t : Int) = 1 + (Tm.deep b : Int)) := by apply hid; rw [HDD.out]; omega
          have hdb := Tm.deep_le b
          have hle' : (Tm.deep a : Int) < (Tm.deep b : Int) := by omega
          have hwr : IntKind.i64.wrap (1 + (Tm.deep b : Int)) = 1 + (Tm.deep b : Int) := by rw [IntKind.wrap_i64]; omega
          go_wp2_with fail
          rw [← hW]
          have HSS := hid hss
          clear hss gc0 gc1 hW
          go_region_held3 (fun wx => wx.cell? ⟨w6.heap.size, i, none⟩ = some (St t) ∧ wx.cell? ⟨w7.heap.size, 3, none⟩ = some (.slice (some ⟨g0, 0, none⟩) 2 cap) ∧ wx.cell? ⟨g0, 0, none⟩ = some (St a) ∧ wx.cell? ⟨g0, 1, none⟩ = some (St b)) (exact ⟨HSS.out.cm, HSS.out.p3, HSS.out.k0, HSS.out.k1⟩) (first | (go_at_call 15; refine (right_list t _).mono ?_; rintro e wN ⟨rfl, hb⟩; rw [HRT.out]; have hSN := (by first | exact HSS.out.below hb | exact HSS.out.below' hb : SS w w6.heap.size ts ns i w7.heap.size g0 t a b (.slice (some ⟨g0, 0, none⟩) 2 cap) wN); clear HSS hb; have HSS := hid hSN; clear hSN) | (go_at_call_of 18 (St a); refine (deep_list a _).mono ?_; rintro e wN ⟨rfl, hb⟩; have hSN := (by first | exact HSS.out.below hb | exact HSS.out.below' hb : SS w w6.heap.size ts ns i w7.heap.size g0 t a b (.slice (some ⟨g0, 0, none⟩) 2 cap) wN); clear HSS hb; have HSS := hid hSN; clear hSN) | (go_at_call_of 18 (St b); refine (deep_list b _).mono ?_; rintro e wN ⟨rfl, hb⟩; have hSN := (by first | exact HSS.out.below hb | exact HSS.out.below' hb : SS w w6.heap.size ts ns i w7.heap.size g0 t a b (.slice (some ⟨g0, 0, none⟩) 2 cap) wN); clear HSS hb; have HSS := hid hSN; clear hSN) | (go_at_call 18; refine (deep_list t _).mono ?_; rintro e wN ⟨rfl, hb⟩; rw [HDM.out]; have hSN := (by first | exact HSS.out.below hb | exact HSS.out.below' hb : SS w w6.heap.size ts ns i w7.heap.size g0 t a b (.slice (some ⟨g0, 0, none⟩) 2 cap) wN); clear HSS hb; have HSS := hid hSN; clear hSN) | (go_at_call 16; refine (size_list t _ HNZ.out).mono ?_; rintro e wN ⟨rfl, hb⟩; have hSN := (by first | exact HSS.out.below hb | exact HSS.out.below' hb : SS w w6.heap.size ts ns i w7.heap.size g0 t a b (.slice (some ⟨g0, 0, none⟩) 2 cap) wN); clear HSS hb; have HSS := hid hSN; clear hSN))
          go_wp2_with fail
          go_loopg [18] i (fun g kv wr => ∃ k : Nat, k ≤ i ∧ g = i - k ∧ kv = .int .i64 k ∧ SS w w6.heap.size ts ns i w7.heap.size g0 t a b (.slice (some ⟨g0, 0, none⟩) 2 cap) wr)
          case atStart => exact ⟨0, by omega, rfl, rfl, HSS.out⟩
          case round =>
            obtain ⟨k, hk, rfl, rfl, hssk⟩ := hrel
            have HSK := hid hssk
            have hcm := hssk.cm
            by_cases hki : k < i
            · have hki' : (k : Int) < (i : Int) := by omega
              have hk4 : (k : Int) < 4 := by omega
              obtain ⟨tk, htk, hne⟩ := HDI.out (by trivial) k hki _ hssk.bk
              clear hssk
              go_wp2_with fail
              go_quiet (fail)
              go_wp2_with fail
              go_roundg (i - (k + 1))
              case measure => omega
              case rel => exact ⟨k + 1, by omega, rfl, by simp, HSK.out.drewN _⟩
            · have hki' : ¬ (k : Int) < (i : Int) := by omega
              clear hssk
              go_wp2_with fail
              go_roundg (4 - (i + 1))
              case measure => omega
              case rel => exact ⟨i + 1, by omega, rfl, by simp, HSK.out.bk⟩
        · have HDM : Hid ((Tm.deep t : Int) = 1 + (Tm.deep a : Int)) := by apply hid; rw [HDD.out]; omega
          have hdb := Tm.deep_le a
          have hle' : ¬ (Tm.deep a : Int) < (Tm.deep b : Int) := by omega
          have hwr : IntKind.i64.wrap (1 + (Tm.deep a : Int)) = 1 + (Tm.deep a : Int) := by rw [IntKind.wrap_i64]; omega
          go_wp2_with fail
          rw [← hW]
          have HSS := hid hss
          clear hss gc0 gc1 hW
          go_region_held3 (fun wx => wx.cell? ⟨w6.heap.size, i, none⟩ = some (St t) ∧ wx.cell? ⟨w7.heap.size, 3, none⟩ = some (.slice (some ⟨g0, 0, none⟩) 2 cap) ∧ wx.cell? ⟨g0, 0, none⟩ = some (St a) ∧ wx.cell? ⟨g0, 1, none⟩ = some (St b)) (exact ⟨HSS.out.cm, HSS.out.p3, HSS.out.k0, HSS.out.k1⟩) (first | (go_at_call 15; refine (right_list t _).mono ?_; rintro e wN ⟨rfl, hb⟩; rw [HRT.out]; have hSN := (by first | exact HSS.out.below hb | exact HSS.out.below' hb : SS w w6.heap.size ts ns i w7.heap.size g0 t a b (.slice (some ⟨g0, 0, none⟩) 2 cap) wN); clear HSS hb; have HSS := hid hSN; clear hSN) | (go_at_call_of 18 (St a); refine (deep_list a _).mono ?_; rintro e wN ⟨rfl, hb⟩; have hSN := (by first | exact HSS.out.below hb | exact HSS.out.below' hb : SS w w6.heap.size ts ns i w7.heap.size g0 t a b (.slice (some ⟨g0, 0, none⟩) 2 cap) wN); clear HSS hb; have HSS := hid hSN; clear hSN) | (go_at_call_of 18 (St b); refine (deep_list b _).mono ?_; rintro e wN ⟨rfl, hb⟩; have hSN := (by first | exact HSS.out.below hb | exact HSS.out.below' hb : SS w w6.heap.size ts ns i w7.heap.size g0 t a b (.slice (some ⟨g0, 0, none⟩) 2 cap) wN); clear HSS hb; have HSS := hid hSN; clear hSN) | (go_at_call 18; refine (deep_list t _).mono ?_; rintro e wN ⟨rfl, hb⟩; rw [HDM.out]; have hSN := (by first | exact HSS.out.below hb | exact HSS.out.below' hb : SS w w6.heap.size ts ns i w7.heap.size g0 t a b (.slice (some ⟨g0, 0, none⟩) 2 cap) wN); clear HSS hb; have HSS := hid hSN; clear hSN) | (go_at_call 16; refine (size_list t _ HNZ.out).mono ?_; rintro e wN ⟨rfl, hb⟩; have hSN := (by first | exact HSS.out.below hb | exact HSS.out.below' hb : SS w w6.heap.size ts ns i w7.heap.size g0 t a b (.slice (some ⟨g0, 0, none⟩) 2 cap) wN); clear HSS hb; have HSS := hid hSN; clear hSN))
          go_wp2_with fail
          go_loopg [18] i (fun g kv wr => ∃ k : Nat, k ≤ i ∧ g = i - k ∧ kv = .int .i64 k ∧ SS w w6.heap.size ts ns i w7.heap.size g0 t a b (.slice (some ⟨g0, 0, none⟩) 2 cap) wr)
          case atStart => exact ⟨0, by omega, rfl, rfl, HSS.out⟩
          case round =>
            obtain ⟨k, hk, rfl, rfl, hssk⟩ := hrel
            have HSK := hid hssk
            have hcm := hssk.cm
            by_cases hki : k < i
            · have hki' : (k : Int) < (i : Int) := by omega
              have hk4 : (k : Int) < 4 := by omega
              obtain ⟨tk, htk, hne⟩ := HDI.out (by trivial) k hki _ hssk.bk
              clear hssk
              go_wp2_with fail
              go_quiet (fail)
              go_wp2_with fail
              go_roundg (i - (k + 1))
              case measure => omega
              case rel => exact ⟨k + 1, by omega, rfl, by simp, HSK.out.drewN _⟩
            · have hki' : ¬ (k : Int) < (i : Int) := by omega
              clear hssk
              go_wp2_with fail
              go_roundg (4 - (i + 1))
              case measure => omega
              case rel => exact ⟨i + 1, by omega, rfl, by simp, HSK.out.bk⟩
    · have hi4 : i = 4 := by omega
      have hlt' : ¬ (i : Int) < 4 := by omega
      have HBKi := hid hbk
      clear hbk hi4
      go_wp2_with fail
      refine (works_any _).mono ?_
      rintro e w8 ⟨rfl, hb⟩
      have HB8 := hid (HBKi.out.below hb)
      clear hb
      go_wp2_with fail
      go_ret
      exact ⟨rfl, HB8.out.bel⟩
end Go.Proofs.YtcmpiffkmnbepaaDoor
