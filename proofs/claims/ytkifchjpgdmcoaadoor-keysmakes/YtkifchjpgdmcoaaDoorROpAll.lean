import Derived.Test.YtkifchjpgdmcoaaDoorRRfAll
/- What the document's Open answers. -/
namespace Go.Proofs.YtkifchjpgdmcoaaDoor
open Go.RowKit

theorem numGo_le {e : UInt8} : ∀ {l : Bs} {n m : Nat} {r : Bs}, n ≤ 9223372036854775807 → Tm.numGo e n l = some (m, r) → m ≤ 9223372036854775807
  | [], _, _, _, _, h => by simp [Tm.numGo] at h
  | c :: l, n, m, r, hn, h => by
    rw [Tm.numGo] at h
    split at h
    · obtain ⟨rfl, rfl⟩ := Prod.mk.inj (Option.some.inj h); exact hn
    · split at h
      · exact numGo_le (by omega) h
      · cases h

theorem nameN_le (l : Bs) : Tm.nameN l ≤ 9223372036854775807 := by
  unfold Tm.nameN
  cases h : Tm.num 59 l with
  | none => simp
  | some x =>
    obtain ⟨k, r⟩ := x
    simp only
    unfold Tm.num at h
    cases h2 : Tm.numGo 59 0 l with
    | none => rw [h2] at h; cases h
    | some y =>
      obtain ⟨m, r'⟩ := y
      rw [h2] at h
      simp only at h
      split at h
      · cases h
      · obtain ⟨rfl, rfl⟩ := Prod.mk.inj (Option.some.inj h)
        exact numGo_le (by omega) h2

/-- the zero parts -/
abbrev partsZ : Array Value := #[.int .u8 0, .int .i64 0, .string ⟨#[]⟩, .slice none 0 0]

theorem partsZ_cells {w : World} {b : Nat} (h : w.heap[b]? = some (.cells partsZ 71 (0, 0))) :
    w.cell? ⟨b, 0, none⟩ = some (.int .u8 0) ∧ w.cell? ⟨b, 1, none⟩ = some (.int .i64 0) ∧ w.cell? ⟨b, 2, none⟩ = some (.string ⟨#[]⟩) ∧ w.cell? ⟨b, 3, none⟩ = some (.slice none 0 0) ∧ (∀ o, w.frozen? ⟨b, o, none⟩ = false) :=
  ⟨by rw [cell_of_heap h]; rfl, by rw [cell_of_heap h]; rfl, by rw [cell_of_heap h]; rfl, by rw [cell_of_heap h]; rfl, fun o => frozen_of_heap h o⟩

theorem parts_block (w : World) (w1 : World) (hb : Below (w.alloc (.cells partsZ 71)).heap.size (w.alloc (.cells partsZ 71)) w1) : Below w.heap.size w w1 ∧ w1.heap[w.heap.size]? = some (.cells partsZ 71 (0, 0)) :=
  ⟨(below_alloc_self' w _).trans (hb.mono (by simp)), by rw [hb.block _ (by simp)]; exact heap_alloc_new w _⟩

set_option maxHeartbeats 1000000 in
set_option maxRecDepth 100000 in
theorem ropen_no (l : Bs) (w : World) (hd : Tm.deep l = 0) :
    Calls Tryd.prog 70 #[St l] w fun en w' => en = .returned (.tuple #[.agg #[.int .u8 0, .int .i64 0, .string ⟨#[]⟩, .slice none 0 0], .bool false]) ∧ Below w.heap.size w w' := by
  have hsz : (⟨l.toArray⟩ : ByteArray).size = l.length := st_size l
  have HD := hid hd
  clear hd
  go_enter Tryd.func70, Tryd.ntmps70
  go_wp2_with fail
  refine (rright_any l _).mono ?_
  rintro e w1 ⟨rfl, hb⟩
  rw [HD.out]
  obtain ⟨hbl, hh⟩ := parts_block w w1 hb
  obtain ⟨q0, q1, q2, q3, qf⟩ := partsZ_cells hh
  have HB := hid hbl
  clear hb hbl hh
  go_wp2_with fail
  refine bodyPost_ret (v := .tuple #[.agg #[.int .u8 0, .int .i64 0, .string ⟨#[]⟩, .slice none 0 0], .bool false]) (by simp [results, Tryd.results70, go_sem, q0, q1, q2, q3]) rfl ⟨rfl, ?_⟩
  exact (((HB.out.setCell (by simp) _).setCell (by simp) _).setCell (by simp) _).setCell (by simp) _

theorem res25 {w2 : World} {b : Nat} (h : w2.heap[b]? = some (.cells partsZ 71 (0, 0))) (a0 a1 a2 a3 : Value) (o1 o2 : Obj) :
    ((((((w2.setCell ⟨b, 0, none⟩ a0).setCell ⟨b, 1, none⟩ a1).setCell ⟨b, 2, none⟩ a2).setCell ⟨b, 3, none⟩ a3).alloc o1).alloc o2).heap[b]? = some (.cells #[a0, a1, a2, a3] 71 (0, 0)) := by
  have hs : b < w2.heap.size := by
    apply Classical.byContradiction
    intro hn
    rw [Array.getElem?_eq_none (by omega)] at h
    cases h
  have h0 := heap_setCell_same h 0 a0
  have h1 := heap_setCell_same h0 1 a1
  have h2 := heap_setCell_same h1 2 a2
  have h3 := heap_setCell_same h2 3 a3
  rw [Below.heap_alloc _ _ _ (by simp; omega), Below.heap_alloc _ _ _ (by simp; omega), h3]
  rfl

theorem below25 {w w2 : World} (h : Below w.heap.size w w2) (a0 a1 a2 a3 : Value) (o1 o2 : Obj) :
    Below w.heap.size w ((((((w2.setCell ⟨w.heap.size, 0, none⟩ a0).setCell ⟨w.heap.size, 1, none⟩ a1).setCell ⟨w.heap.size, 2, none⟩ a2).setCell ⟨w.heap.size, 3, none⟩ a3).alloc o1).alloc o2) := by
  have hs := h.size
  exact (((((h.setCell (Nat.le_refl _) _).setCell (Nat.le_refl _) _).setCell (Nat.le_refl _) _).setCell (Nat.le_refl _) _).alloc (by simp; omega) _).alloc (by simp; omega) _

set_option maxHeartbeats 1000000 in
set_option maxRecDepth 100000 in
theorem ropen_name (l : Bs) (w : World) (hd : Tm.deep (110 :: l) ≠ 0) :
    Calls Tryd.prog 70 #[St (110 :: l)] w fun en w' => en = .returned (.tuple #[.agg #[.int .u8 110, .int .i64 (Tm.nameN l : Int), .string ⟨#[]⟩, .slice none 0 0], .bool true]) ∧ Below w.heap.size w w' := by
  obtain ⟨t, ht⟩ : ∃ t, t = 110 :: l := ⟨_, rfl⟩
  rw [← ht] at hd ⊢
  have hsz : (⟨t.toArray⟩ : ByteArray).size = t.length := st_size t
  have hlen : 0 < t.length := by rw [ht]; simp
  have h0 : ∀ h, (((⟨t.toArray⟩ : ByteArray)[0]'h).toNat : Int) = 110 := by subst ht; exact fun _ => rfl
  have HD := hid hd
  have HT := hid ht
  have HR : Hid ((Tm.deep t != 0) = true) := by apply hid; simpa using hd
  clear hd ht
  go_enter Tryd.func70, Tryd.ntmps70
  go_wp2_with fail
  refine (rright_any t _).mono ?_
  rintro e w1 ⟨rfl, hb⟩
  rw [HR.out]
  obtain ⟨hbl, hh⟩ := parts_block w w1 hb
  have HB := hid hbl
  have HH := hid hh
  clear hb hbl hh
  go_wp2_with fail
  refine (read_whole t _ (Tm.deep_is HD.out).2).mono ?_
  rintro e w2 ⟨hb, E, D, N, F, ao, kn, kc, rfl, _, hT⟩
  obtain ⟨hD, hE, ha, hT⟩ := hT HD.out
  have hlt : w.heap.size < w1.heap.size := by
    apply Classical.byContradiction
    intro hn
    have hh := HH.out
    rw [Array.getElem?_eq_none (by omega)] at hh
    cases hh
  have hh2 : w2.heap[w.heap.size]? = some (.cells partsZ 71 (0, 0)) := (hb.block _ hlt).trans HH.out
  obtain ⟨q0, q1, q2, q3, qf⟩ := partsZ_cells hh2
  have hlt2 : w.heap.size < w2.heap.size := Nat.lt_of_lt_of_le hlt hb.size
  have HH2 := hid hh2
  have HB2 := hid (HB.out.trans (hb.mono HB.out.size))
  have hk : ao = none ∧ kn = 0 ∧ kc = 0 ∧ N = (Tm.nameN l : Int) := by
    have hr : rest ⟨t.toArray⟩ (0 + 1) = l := by rw [HT.out]; simp [rest]
    rcases hT with ⟨_, h2, h3⟩ | ⟨h1, _⟩ | ⟨h1, _⟩
    · simp at h3; rw [hr] at h2; exact ⟨h3.1, h3.2.1, h3.2.2, h2⟩
    · exact absurd h1 (by simp only [HT.out]; show ¬ ((110 : UInt8) = 116); decide)
    · exact absurd (by simp only [HT.out]; rfl) h1
  obtain ⟨rfl, rfl, rfl, rfl⟩ := hk
  clear hT hb hh2 hlt HB HH hD hE
  obtain ⟨nn, hn0⟩ : ∃ nn, nn = Tm.nameN l := ⟨_, rfl⟩
  have hnn : nn ≤ 9223372036854775807 := by rw [hn0]; exact nameN_le l
  have HNN := hid hn0
  rw [← hn0]
  clear hn0
  have hw : IntKind.i64.wrap (nn : Int) = (nn : Int) := by rw [IntKind.wrap_i64]; omega
  go_wp2_with fail
  go_loopg [6] 1 (fun _ iv wr => iv = .int .i64 1 ∧ wr = ((w2.alloc (.cells #[.int .i64 E, .int .i64 D, .int .u64 (nn : Int), .int .i64 F, .slice none 0 0] 78)).alloc (.cells #[.int .u8 110, .int .i64 (nn : Int), .string ⟨#[]⟩, .slice none 0 0] 71)))
  case atStart => exact ⟨rfl, rfl⟩
  case round =>
    obtain ⟨rfl, rfl⟩ := hrel
    go_wp2_with fail
    have hres := res25 HH2.out (.int .u8 110) (.int .i64 (nn : Int)) (.string ⟨#[]⟩) (.slice none 0 0) (.cells #[.int .i64 E, .int .i64 D, .int .u64 (nn : Int), .int .i64 F, .slice none 0 0] 78) (.cells #[.int .u8 110, .int .i64 (nn : Int), .string ⟨#[]⟩, .slice none 0 0] 71)
    have hbel := below25 HB2.out (.int .u8 110) (.int .i64 (nn : Int)) (.string ⟨#[]⟩) (.slice none 0 0) (.cells #[.int .i64 E, .int .i64 D, .int .u64 (nn : Int), .int .i64 F, .slice none 0 0] 78) (.cells #[.int .u8 110, .int .i64 (nn : Int), .string ⟨#[]⟩, .slice none 0 0] 71)
    generalize World.alloc (World.alloc (World.setCell (World.setCell (World.setCell (World.setCell w2 ⟨w.heap.size, 0, none⟩ (.int .u8 110)) ⟨w.heap.size, 1, none⟩ (.int .i64 (nn : Int))) ⟨w.heap.size, 2, none⟩ (.string ⟨#[]⟩)) ⟨w.heap.size, 3, none⟩ (.slice none 0 0)) (.cells #[.int .i64 E, .int .i64 D, .int .u64 (nn : Int), .int .i64 F, .slice none 0 0] 78)) (.cells #[.int .u8 110, .int .i64 (nn : Int), .string ⟨#[]⟩, .slice none 0 0] 71) = W at hres hbel ⊢
    have r0 : W.cell? ⟨w.heap.size, 0, none⟩ = some (.int .u8 110) := by rw [cell_of_heap hres]; rfl
    have r1 : W.cell? ⟨w.heap.size, 1, none⟩ = some (.int .i64 (nn : Int)) := by rw [cell_of_heap hres]; rfl
    have r2 : W.cell? ⟨w.heap.size, 2, none⟩ = some (.string ⟨#[]⟩) := by rw [cell_of_heap hres]; rfl
    have r3 : W.cell? ⟨w.heap.size, 3, none⟩ = some (.slice none 0 0) := by rw [cell_of_heap hres]; rfl
    refine bodyPost_ret (v := .tuple #[.agg #[.int .u8 110, .int .i64 (nn : Int), .string ⟨#[]⟩, .slice none 0 0], .bool true]) (by simp [results, Tryd.results70, go_sem, r0, r1, r2, r3]) rfl ⟨by rw [HNN.out], hbel⟩
end Go.Proofs.YtkifchjpgdmcoaaDoor

/- What the document's Open answers of a text. -/
namespace Go.Proofs.YtkifchjpgdmcoaaDoor
open Go.RowKit

set_option maxHeartbeats 1000000 in
set_option maxRecDepth 100000 in
theorem ropen_text (l : Bs) (w : World) (hd : Tm.deep (116 :: l) ≠ 0) :
    Calls Tryd.prog 70 #[St (116 :: l)] w fun en w' => en = .returned (.tuple #[.agg #[.int .u8 116, .int .i64 0, .string ⟨(Tm.textX l).toArray⟩, .slice none 0 0], .bool true]) ∧ Below w.heap.size w w' := by
  obtain ⟨t, ht⟩ : ∃ t, t = 116 :: l := ⟨_, rfl⟩
  rw [← ht] at hd ⊢
  have hsz : (⟨t.toArray⟩ : ByteArray).size = t.length := st_size t
  have hlen : 0 < t.length := by rw [ht]; simp
  have h0 : ∀ h, (((⟨t.toArray⟩ : ByteArray)[0]'h).toNat : Int) = 116 := by subst ht; exact fun _ => rfl
  have HD := hid hd
  have HT := hid ht
  have HR : Hid ((Tm.deep t != 0) = true) := by apply hid; simpa using hd
  clear hd ht
  go_enter Tryd.func70, Tryd.ntmps70
  go_wp2_with fail
  refine (rright_any t _).mono ?_
  rintro e w1 ⟨rfl, hb⟩
  rw [HR.out]
  obtain ⟨hbl, hh⟩ := parts_block w w1 hb
  have HB := hid hbl
  have HH := hid hh
  clear hb hbl hh
  go_wp2_with fail
  refine (read_whole t _ (Tm.deep_is HD.out).2).mono ?_
  rintro e w2 ⟨hb, E, D, N, F, ao, kn, kc, rfl, _, hT⟩
  obtain ⟨hD, hE, ha, hT⟩ := hT HD.out
  have hlt : w.heap.size < w1.heap.size := by
    apply Classical.byContradiction
    intro hn
    have hh := HH.out
    rw [Array.getElem?_eq_none (by omega)] at hh
    cases hh
  have hh2 : w2.heap[w.heap.size]? = some (.cells partsZ 71 (0, 0)) := (hb.block _ hlt).trans HH.out
  obtain ⟨q0, q1, q2, q3, qf⟩ := partsZ_cells hh2
  have hlt2 : w.heap.size < w2.heap.size := Nat.lt_of_lt_of_le hlt hb.size
  have HH2 := hid hh2
  have HB2 := hid (HB.out.trans (hb.mono HB.out.size))
  have hk : ao = none ∧ kn = 0 ∧ kc = 0 ∧ ∃ f : Nat, F = f ∧ f ≤ t.length ∧ Tm.textX l = (rest ⟨t.toArray⟩ f).take (t.length - f) := by
    have hr : rest ⟨t.toArray⟩ (0 + 1) = l := by rw [HT.out]; simp [rest]
    rcases hT with ⟨h1, _⟩ | ⟨_, h3, f, h4, h5, h6⟩ | ⟨_, h1, _⟩
    · exact absurd h1 (by simp only [HT.out]; show ¬ ((116 : UInt8) = 110); decide)
    · simp at h3
      rw [hr] at h6
      rw [hsz] at h5 h6
      exact ⟨h3.1, h3.2.1, h3.2.2, f, h4, by simpa using h5, by simpa using h6⟩
    · exact absurd (by simp only [HT.out]; rfl) h1
  obtain ⟨rfl, rfl, rfl, f, rfl, hf, hx⟩ := hk
  subst hE
  have HX : Hid ((⟨t.toArray⟩ : ByteArray).extract f t.length = ⟨(Tm.textX l).toArray⟩) := by
    apply hid
    rw [hx]
    exact ba_eq (Lib.extract_data ⟨t.toArray⟩ f t.length)
  clear hT hb hh2 hlt HB HH hD hx
  have hll : t.length ≤ 16384 := (Tm.deep_is HD.out).2
  go_wp2_with fail
  rw [HX.out]
  obtain ⟨X, hX0⟩ : ∃ X : ByteArray, X = ⟨(Tm.textX l).toArray⟩ := ⟨_, rfl⟩
  rw [← hX0]
  have HX0 := hid hX0
  clear hX0
  go_loopg [6] 1 (fun _ iv wr => iv = .int .i64 1 ∧ wr = ((w2.alloc (.cells #[.int .i64 (t.length : Int), .int .i64 D, .int .u64 N, .int .i64 (f : Int), .slice none 0 0] 78)).alloc (.cells #[.int .u8 116, .int .i64 0, .string X, .slice none 0 0] 71)))
  case atStart => exact ⟨rfl, rfl⟩
  case round =>
    obtain ⟨rfl, rfl⟩ := hrel
    go_wp2_with fail
    have hres := res25 HH2.out (.int .u8 116) (.int .i64 0) (.string X) (.slice none 0 0) (.cells #[.int .i64 (t.length : Int), .int .i64 D, .int .u64 N, .int .i64 (f : Int), .slice none 0 0] 78) (.cells #[.int .u8 116, .int .i64 0, .string X, .slice none 0 0] 71)
    have hbel := below25 HB2.out (.int .u8 116) (.int .i64 0) (.string X) (.slice none 0 0) (.cells #[.int .i64 (t.length : Int), .int .i64 D, .int .u64 N, .int .i64 (f : Int), .slice none 0 0] 78) (.cells #[.int .u8 116, .int .i64 0, .string X, .slice none 0 0] 71)
    generalize World.alloc (World.alloc (World.setCell (World.setCell (World.setCell (World.setCell w2 ⟨w.heap.size, 0, none⟩ (.int .u8 116)) ⟨w.heap.size, 1, none⟩ (.int .i64 0)) ⟨w.heap.size, 2, none⟩ (.string X)) ⟨w.heap.size, 3, none⟩ (.slice none 0 0)) (.cells #[.int .i64 (t.length : Int), .int .i64 D, .int .u64 N, .int .i64 (f : Int), .slice none 0 0] 78)) (.cells #[.int .u8 116, .int .i64 0, .string X, .slice none 0 0] 71) = W at hres hbel ⊢
    have r0 : W.cell? ⟨w.heap.size, 0, none⟩ = some (.int .u8 116) := by rw [cell_of_heap hres]; rfl
    have r1 : W.cell? ⟨w.heap.size, 1, none⟩ = some (.int .i64 0) := by rw [cell_of_heap hres]; rfl
    have r2 : W.cell? ⟨w.heap.size, 2, none⟩ = some (.string X) := by rw [cell_of_heap hres]; rfl
    have r3 : W.cell? ⟨w.heap.size, 3, none⟩ = some (.slice none 0 0) := by rw [cell_of_heap hres]; rfl
    refine bodyPost_ret (v := .tuple #[.agg #[.int .u8 116, .int .i64 0, .string X, .slice none 0 0], .bool true]) (by simp [results, Tryd.results70, go_sem, r0, r1, r2, r3]) rfl ⟨by rw [HX0.out], hbel⟩
end Go.Proofs.YtkifchjpgdmcoaaDoor
