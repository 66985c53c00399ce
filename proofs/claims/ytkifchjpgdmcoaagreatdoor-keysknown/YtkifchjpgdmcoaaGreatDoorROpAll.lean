import Derived.Test.YtkifchjpgdmcoaaGreatDoorRRfAll
/- What the document's Open answers. -/
namespace Go.Proofs.YtkifchjpgdmcoaaGreatDoor
open Go.RowKit
theorem numGo_le {e : UInt8} : ∀ {l : Bs} {n m : Nat} {r : Bs}, n ≤ 9223372036854775807 → Tm.numGo e n l = some (m, r) → m ≤ 9223372036854775807
 | [], _, _, _, _, h => by simp [Tm.numGo] at h
 | c :: l, n, m, r, hn, h => by
   rw [Tm.numGo] at h
   split at h
   · obtain ⟨rfl, rfl⟩ := Prod.mk.inj (Option.some.inj h); exact hn
   · split at h
     · exact numGo_le (by omega) h
     · cases h
theorem nameN_le (l : Bs) : Tm.nameN l ≤ 9223372036854775807 := by
 unfold Tm.nameN
 cases h : Tm.num 59 l with
 | none => simp
 | some x =>
   obtain ⟨k, r⟩ := x
   simp only
   unfold Tm.num at h
   cases h2 : Tm.numGo 59 0 l with
   | none => rw [h2] at h; cases h
   | some y =>
     obtain ⟨m, r'⟩ := y
     rw [h2] at h
     simp only at h
     split at h
     · cases h
     · obtain ⟨rfl, rfl⟩ := Prod.mk.inj (Option.some.inj h)
       exact numGo_le (by omega) h2
abbrev partsZ : Array Value := #[.int .u8 0, .int .i64 0, .string ⟨#[]⟩, .slice none 0 0]
theorem partsZ_cells {w : World} {b : Nat} (h : w.heap[b]? = some (.cells partsZ 82 (0, 0))) :
   w.cell? ⟨b, 0, none⟩ = some (.int .u8 0) ∧ w.cell? ⟨b, 1, none⟩ = some (.int .i64 0) ∧ w.cell? ⟨b, 2, none⟩ = some (.string ⟨#[]⟩) ∧ w.cell? ⟨b, 3, none⟩ = some (.slice none 0 0) ∧ (∀ o, w.frozen? ⟨b, o, none⟩ = false) :=
 ⟨by rw [cell_of_heap h]; rfl, by rw [cell_of_heap h]; rfl, by rw [cell_of_heap h]; rfl, by rw [cell_of_heap h]; rfl, fun o => frozen_of_heap h o⟩
theorem parts_block (w : World) (w1 : World) (hb : Below (w.alloc (.cells partsZ 82)).heap.size (w.alloc (.cells partsZ 82)) w1) : Below w.heap.size w w1 ∧ w1.heap[w.heap.size]? = some (.cells partsZ 82 (0, 0)) :=
 ⟨(below_alloc_self' w _).trans (hb.mono (by simp)), by rw [hb.block _ (by simp)]; exact heap_alloc_new w _⟩
theorem res25 {w2 : World} {b : Nat} (h : w2.heap[b]? = some (.cells partsZ 82 (0, 0))) (a0 a1 a2 a3 : Value) (o1 o2 : Obj) :
   ((((((w2.setCell ⟨b, 0, none⟩ a0).setCell ⟨b, 1, none⟩ a1).setCell ⟨b, 2, none⟩ a2).setCell ⟨b, 3, none⟩ a3).alloc o1).alloc o2).heap[b]? = some (.cells #[a0, a1, a2, a3] 82 (0, 0)) := by
 have hs : b < w2.heap.size := by
   apply Classical.byContradiction
   intro hn
   rw [Array.getElem?_eq_none (by omega)] at h
   cases h
 have h0 := heap_setCell_same h 0 a0
 have h1 := heap_setCell_same h0 1 a1
 have h2 := heap_setCell_same h1 2 a2
 have h3 := heap_setCell_same h2 3 a3
 rw [Below.heap_alloc _ _ _ (by simp; omega), Below.heap_alloc _ _ _ (by simp; omega), h3]
 rfl
theorem below25 {w w2 : World} (h : Below w.heap.size w w2) (a0 a1 a2 a3 : Value) (o1 o2 : Obj) :
   Below w.heap.size w ((((((w2.setCell ⟨w.heap.size, 0, none⟩ a0).setCell ⟨w.heap.size, 1, none⟩ a1).setCell ⟨w.heap.size, 2, none⟩ a2).setCell ⟨w.heap.size, 3, none⟩ a3).alloc o1).alloc o2) := by
 have hs := h.size
 exact (((((h.setCell (Nat.le_refl _) _).setCell (Nat.le_refl _) _).setCell (Nat.le_refl _) _).setCell (Nat.le_refl _) _).alloc (by simp; omega) _).alloc (by simp; omega) _
set_option maxHeartbeats 1000000 in
set_option maxRecDepth 100000 in
theorem ropen_name (l : Bs) (w : World) (hd : Tm.deep (110 :: l) ≠ 0) :
   Calls Tryz.prog 106 #[St (110 :: l)] w fun en w' => en = .returned (.tuple #[.agg #[.int .u8 110, .int .i64 (Tm.nameN l : Int), .string ⟨#[]⟩, .slice none 0 0], .bool true]) ∧ Below w.heap.size w w' := by
 obtain ⟨t, ht⟩ : ∃ t, t = 110 :: l := ⟨_, rfl⟩
 rw [← ht] at hd ⊢
 have hsz : (⟨t.toArray⟩ : ByteArray).size = t.length := st_size t
 have hlen : 0 < t.length := by rw [ht]; simp
 have h0 : ∀ h, (((⟨t.toArray⟩ : ByteArray)[0]'h).toNat : Int) = 110 := by subst ht; exact fun _ => rfl
 have HD := hid hd
 have HT := hid ht
 have HR : Hid ((Tm.deep t != 0) = true) := by apply hid; simpa using hd
 clear hd ht
 go_enter Tryz.func106, Tryz.ntmps106
 go_wp2_with fail
 refine (rright_any t _).mono ?_
 rintro e w1 ⟨rfl, hb⟩
 rw [HR.out]
 obtain ⟨hbl, hh⟩ := parts_block w w1 hb
 have HB := hid hbl
 have HH := hid hh
 clear hb hbl hh
 go_wp2_with fail
 refine (read_whole t _ (Tm.deep_is HD.out).2).mono ?_
 rintro e w2 ⟨hb, E, D, N, F, ao, kn, kc, rfl, _, hT⟩
 obtain ⟨hD, hE, ha, hT⟩ := hT HD.out
 have hlt : w.heap.size < w1.heap.size := by
   apply Classical.byContradiction
   intro hn
   have hh := HH.out
   rw [Array.getElem?_eq_none (by omega)] at hh
   cases hh
 have hh2 : w2.heap[w.heap.size]? = some (.cells partsZ 82 (0, 0)) := (hb.block _ hlt).trans HH.out
 obtain ⟨q0, q1, q2, q3, qf⟩ := partsZ_cells hh2
 have hlt2 : w.heap.size < w2.heap.size := Nat.lt_of_lt_of_le hlt hb.size
 have HH2 := hid hh2
 have HB2 := hid (HB.out.trans (hb.mono HB.out.size))
 have hk : ao = none ∧ kn = 0 ∧ kc = 0 ∧ N = (Tm.nameN l : Int) := by
   have hr : rest ⟨t.toArray⟩ (0 + 1) = l := by rw [HT.out]; simp [rest]
   rcases hT with ⟨_, h2, h3⟩ | ⟨h1, _⟩ | ⟨h1, _⟩
   · simp at h3; rw [hr] at h2; exact ⟨h3.1, h3.2.1, h3.2.2, h2⟩
   · exact absurd h1 (by simp only [HT.out]; show ¬ ((110 : UInt8) = 116); decide)
   · exact absurd (by simp only [HT.out]; rfl) h1
 obtain ⟨rfl, rfl, rfl, rfl⟩ := hk
 clear hT hb hh2 hlt HB HH hD hE
 obtain ⟨nn, hn0⟩ : ∃ nn, nn = Tm.nameN l := ⟨_, rfl⟩
 have hnn : nn ≤ 9223372036854775807 := by rw [hn0]; exact nameN_le l
 have HNN := hid hn0
 rw [← hn0]
 clear hn0
 have hw : IntKind.i64.wrap (nn : Int) = (nn : Int) := by rw [IntKind.wrap_i64]; omega
 go_wp2_with fail
 go_loopg [6] 1 (fun _ iv wr => iv = .int .i64 1 ∧ wr = ((w2.alloc (.cells #[.int .i64 E, .int .i64 D, .int .u64 (nn : Int), .int .i64 F, .slice none 0 0] 109)).alloc (.cells #[.int .u8 110, .int .i64 (nn : Int), .string ⟨#[]⟩, .slice none 0 0] 82)))
 case atStart => exact ⟨rfl, rfl⟩
 case round =>
   obtain ⟨rfl, rfl⟩ := hrel
   go_wp2_with fail
   have hres := res25 HH2.out (.int .u8 110) (.int .i64 (nn : Int)) (.string ⟨#[]⟩) (.slice none 0 0) (.cells #[.int .i64 E, .int .i64 D, .int .u64 (nn : Int), .int .i64 F, .slice none 0 0] 109) (.cells #[.int .u8 110, .int .i64 (nn : Int), .string ⟨#[]⟩, .slice none 0 0] 82)
   have hbel := below25 HB2.out (.int .u8 110) (.int .i64 (nn : Int)) (.string ⟨#[]⟩) (.slice none 0 0) (.cells #[.int .i64 E, .int .i64 D, .int .u64 (nn : Int), .int .i64 F, .slice none 0 0] 109) (.cells #[.int .u8 110, .int .i64 (nn : Int), .string ⟨#[]⟩, .slice none 0 0] 82)
   generalize World.alloc (World.alloc (World.setCell (World.setCell (World.setCell (World.setCell w2 ⟨w.heap.size, 0, none⟩ (.int .u8 110)) ⟨w.heap.size, 1, none⟩ (.int .i64 (nn : Int))) ⟨w.heap.size, 2, none⟩ (.string ⟨#[]⟩)) ⟨w.heap.size, 3, none⟩ (.slice none 0 0)) (.cells #[.int .i64 E, .int .i64 D, .int .u64 (nn : Int), .int .i64 F, .slice none 0 0] 109)) (.cells #[.int .u8 110, .int .i64 (nn : Int), .string ⟨#[]⟩, .slice none 0 0] 82) = W at hres hbel ⊢
   have r0 : W.cell? ⟨w.heap.size, 0, none⟩ = some (.int .u8 110) := by rw [cell_of_heap hres]; rfl
   have r1 : W.cell? ⟨w.heap.size, 1, none⟩ = some (.int .i64 (nn : Int)) := by rw [cell_of_heap hres]; rfl
   have r2 : W.cell? ⟨w.heap.size, 2, none⟩ = some (.string ⟨#[]⟩) := by rw [cell_of_heap hres]; rfl
   have r3 : W.cell? ⟨w.heap.size, 3, none⟩ = some (.slice none 0 0) := by rw [cell_of_heap hres]; rfl
   refine bodyPost_ret (v := .tuple #[.agg #[.int .u8 110, .int .i64 (nn : Int), .string ⟨#[]⟩, .slice none 0 0], .bool true]) (by simp [results, Tryz.results106, go_sem, r0, r1, r2, r3]) rfl ⟨by rw [HNN.out], hbel⟩
end Go.Proofs.YtkifchjpgdmcoaaGreatDoor

/- What the document's Open answers of a text. -/
namespace Go.Proofs.YtkifchjpgdmcoaaGreatDoor
open Go.RowKit
set_option maxHeartbeats 1000000 in
set_option maxRecDepth 100000 in
theorem ropen_text (l : Bs) (w : World) (hd : Tm.deep (116 :: l) ≠ 0) :
   Calls Tryz.prog 106 #[St (116 :: l)] w fun en w' => en = .returned (.tuple #[.agg #[.int .u8 116, .int .i64 0, .string ⟨(Tm.textX l).toArray⟩, .slice none 0 0], .bool true]) ∧ Below w.heap.size w w' := by
 obtain ⟨t, ht⟩ : ∃ t, t = 116 :: l := ⟨_, rfl⟩
 rw [← ht] at hd ⊢
 have hsz : (⟨t.toArray⟩ : ByteArray).size = t.length := st_size t
 have hlen : 0 < t.length := by rw [ht]; simp
 have h0 : ∀ h, (((⟨t.toArray⟩ : ByteArray)[0]'h).toNat : Int) = 116 := by subst ht; exact fun _ => rfl
 have HD := hid hd
 have HT := hid ht
 have HR : Hid ((Tm.deep t != 0) = true) := by apply hid; simpa using hd
 clear hd ht
 go_enter Tryz.func106, Tryz.ntmps106
 go_wp2_with fail
 refine (rright_any t _).mono ?_
 rintro e w1 ⟨rfl, hb⟩
 rw [HR.out]
 obtain ⟨hbl, hh⟩ := parts_block w w1 hb
 have HB := hid hbl
 have HH := hid hh
 clear hb hbl hh
 go_wp2_with fail
 refine (read_whole t _ (Tm.deep_is HD.out).2).mono ?_
 rintro e w2 ⟨hb, E, D, N, F, ao, kn, kc, rfl, _, hT⟩
 obtain ⟨hD, hE, ha, hT⟩ := hT HD.out
 have hlt : w.heap.size < w1.heap.size := by
   apply Classical.byContradiction
   intro hn
   have hh := HH.out
   rw [Array.getElem?_eq_none (by omega)] at hh
   cases hh
 have hh2 : w2.heap[w.heap.size]? = some (.cells partsZ 82 (0, 0)) := (hb.block _ hlt).trans HH.out
 obtain ⟨q0, q1, q2, q3, qf⟩ := partsZ_cells hh2
 have hlt2 : w.heap.size < w2.heap.size := Nat.lt_of_lt_of_le hlt hb.size
 have HH2 := hid hh2
 have HB2 := hid (HB.out.trans (hb.mono HB.out.size))
 have hk : ao = none ∧ kn = 0 ∧ kc = 0 ∧ ∃ f : Nat, F = f ∧ f ≤ t.length ∧ Tm.textX l = (rest ⟨t.toArray⟩ f).take (t.length - f) := by
   have hr : rest ⟨t.toArray⟩ (0 + 1) = l := by rw [HT.out]; simp [rest]
   rcases hT with ⟨h1, _⟩ | ⟨_, h3, f, h4, h5, h6⟩ | ⟨_, h1, _⟩
   · exact absurd h1 (by simp only [HT.out]; show ¬ ((116 : UInt8) = 110); decide)
   · simp at h3
     rw [hr] at h6
     rw [hsz] at h5 h6
     exact ⟨h3.1, h3.2.1, h3.2.2, f, h4, by simpa using h5, by simpa using h6⟩
   · exact absurd (by simp only [HT.out]; rfl) h1
 obtain ⟨rfl, rfl, rfl, f, rfl, hf, hx⟩ := hk
 subst hE
 have HX : Hid ((⟨t.toArray⟩ : ByteArray).extract f t.length = ⟨(Tm.textX l).toArray⟩) := by
   apply hid
   rw [hx]
   exact ba_eq (Lib.extract_data ⟨t.toArray⟩ f t.length)
 clear hT hb hh2 hlt HB HH hD hx
 have hll : t.length ≤ 16384 := (Tm.deep_is HD.out).2
 go_wp2_with fail
 rw [HX.out]
 obtain ⟨X, hX0⟩ : ∃ X : ByteArray, X = ⟨(Tm.textX l).toArray⟩ := ⟨_, rfl⟩
 rw [← hX0]
 have HX0 := hid hX0
 clear hX0
 go_loopg [6] 1 (fun _ iv wr => iv = .int .i64 1 ∧ wr = ((w2.alloc (.cells #[.int .i64 (t.length : Int), .int .i64 D, .int .u64 N, .int .i64 (f : Int), .slice none 0 0] 109)).alloc (.cells #[.int .u8 116, .int .i64 0, .string X, .slice none 0 0] 82)))
 case atStart => exact ⟨rfl, rfl⟩
 case round =>
   obtain ⟨rfl, rfl⟩ := hrel
   go_wp2_with fail
   have hres := res25 HH2.out (.int .u8 116) (.int .i64 0) (.string X) (.slice none 0 0) (.cells #[.int .i64 (t.length : Int), .int .i64 D, .int .u64 N, .int .i64 (f : Int), .slice none 0 0] 109) (.cells #[.int .u8 116, .int .i64 0, .string X, .slice none 0 0] 82)
   have hbel := below25 HB2.out (.int .u8 116) (.int .i64 0) (.string X) (.slice none 0 0) (.cells #[.int .i64 (t.length : Int), .int .i64 D, .int .u64 N, .int .i64 (f : Int), .slice none 0 0] 109) (.cells #[.int .u8 116, .int .i64 0, .string X, .slice none 0 0] 82)
   generalize World.alloc (World.alloc (World.setCell (World.setCell (World.setCell (World.setCell w2 ⟨w.heap.size, 0, none⟩ (.int .u8 116)) ⟨w.heap.size, 1, none⟩ (.int .i64 0)) ⟨w.heap.size, 2, none⟩ (.string X)) ⟨w.heap.size, 3, none⟩ (.slice none 0 0)) (.cells #[.int .i64 (t.length : Int), .int .i64 D, .int .u64 N, .int .i64 (f : Int), .slice none 0 0] 109)) (.cells #[.int .u8 116, .int .i64 0, .string X, .slice none 0 0] 82) = W at hres hbel ⊢
   have r0 : W.cell? ⟨w.heap.size, 0, none⟩ = some (.int .u8 116) := by rw [cell_of_heap hres]; rfl
   have r1 : W.cell? ⟨w.heap.size, 1, none⟩ = some (.int .i64 0) := by rw [cell_of_heap hres]; rfl
   have r2 : W.cell? ⟨w.heap.size, 2, none⟩ = some (.string X) := by rw [cell_of_heap hres]; rfl
   have r3 : W.cell? ⟨w.heap.size, 3, none⟩ = some (.slice none 0 0) := by rw [cell_of_heap hres]; rfl
   refine bodyPost_ret (v := .tuple #[.agg #[.int .u8 116, .int .i64 0, .string X, .slice none 0 0], .bool true]) (by simp [results, Tryz.results106, go_sem, r0, r1, r2, r3]) rfl ⟨by rw [HX0.out], hbel⟩
end Go.Proofs.YtkifchjpgdmcoaaGreatDoor

/- What the document's Open answers of a term with parts. -/
namespace Go.Proofs.YtkifchjpgdmcoaaGreatDoor
open Go.RowKit
def OpenY (f : Nat) (c : UInt8) (l : Bs) : Prop := ∀ w, Calls Tryz.prog f #[St (c :: l)] w fun en w' => ∃ kids, en = .returned (.tuple #[.agg #[.int .u8 (c.toNat : Int), .int .i64 (setN (c :: l) 0), .string (setX (c :: l) ⟨#[]⟩), kids], .bool true]) ∧
     w'.ownsRow w.heap.size 22 1 kids (Tm.kidsOf 63 (c :: l)).length ((Tm.kidsOf 63 (c :: l)).map St) ∧ Below w.heap.size w w'
structure KB (w w2 : World) (xb pb g kc : Nat) (E D N F op : Int) (ps : List Nat) (kv : Value) (ks : List Bs) (wr : World) : Prop where
 bel : Below w.heap.size w wr
 res : wr.heap[w.heap.size]? = some (.cells partsZ 82 (0, 0))
 lt : w.heap.size < xb ∧ xb < pb ∧ pb < wr.heap.size ∧ g < xb
 xo : wr.heap[xb]? = some (.cells #[.int .i64 E, .int .i64 D, .int .u64 N, .int .i64 F, .slice (some ⟨g, 0, none⟩) ps.length kc] 109 (0, 0))
 gb : wr.heap[g]? = w2.heap[g]?
 po : wr.heap[pb]? = some (.cells #[.int .u8 op, .int .i64 0, .string ⟨#[]⟩, kv] 82 (0, 0))
 own : wr.ownsRow (pb + 1) 22 1 kv ks.length (ks.map St)
theorem kb_start {w w2 : World} {g kc : Nat} {E D N F op : Int} {ps : List Nat} (hb : Below w.heap.size w w2) (hr : w2.heap[w.heap.size]? = some (.cells partsZ 82 (0, 0))) (hlt : w.heap.size < w2.heap.size) (hg : g < w2.heap.size) :
   KB w w2 w2.heap.size (w2.heap.size + 1) g kc E D N F op ps (.slice none 0 0) [] ((w2.alloc (.cells #[.int .i64 E, .int .i64 D, .int .u64 N, .int .i64 F, .slice (some ⟨g, 0, none⟩) ps.length kc] 109)).alloc (.cells #[.int .u8 op, .int .i64 0, .string ⟨#[]⟩, .slice none 0 0] 82)) := by
 have b1 := below_alloc_self' w2 (.cells #[.int .i64 E, .int .i64 D, .int .u64 N, .int .i64 F, .slice (some ⟨g, 0, none⟩) ps.length kc] 109)
 have b2 := below_alloc_self' (w2.alloc (.cells #[.int .i64 E, .int .i64 D, .int .u64 N, .int .i64 F, .slice (some ⟨g, 0, none⟩) ps.length kc] 109)) (.cells #[.int .u8 op, .int .i64 0, .string ⟨#[]⟩, .slice none 0 0] 82)
 have hs := hb.size
 refine ⟨(hb.trans (b1.mono hs)).trans (b2.mono (by simp; omega)), ?_, ⟨hlt, by omega, by simp, hg⟩, ?_, ?_, ?_, ⟨rfl, Or.inl ⟨rfl, rfl⟩⟩⟩
 · rw [b2.block _ (by simp; omega), b1.block _ hlt]; exact hr
 · rw [b2.block _ (by simp)]; exact heap_alloc_new w2 _
 · rw [b2.block _ (by simp; omega), b1.block _ hg]
 · have := heap_alloc_new (w2.alloc (.cells #[.int .i64 E, .int .i64 D, .int .u64 N, .int .i64 F, .slice (some ⟨g, 0, none⟩) ps.length kc] 109)) (.cells #[.int .u8 op, .int .i64 0, .string ⟨#[]⟩, .slice none 0 0] 82)
   simpa using this
theorem kb_after {w w2 : World} {xb pb g kc : Nat} {E D N F op : Int} {ps : List Nat} {ao : Option Addr} {kn kk : Nat} {ks : List Bs} {wr : World} (h : KB w w2 xb pb g kc E D N F op ps (.slice ao kn kk) ks wr) {o : Obj} {v' : Value} {w' : World} {k : Bs}
   (ho : w'.ownsRow (pb + 1) 22 1 v' (ks.length + 1) (ks.map St ++ [St k])) (hg : ((wr.alloc o).drew).grownBy w' (Value.slice ao kn kk).ownBlock) :
   ∃ ao' kn' kk', v' = .slice ao' kn' kk' ∧ w'.cell? ⟨pb, 3, none⟩ = some (.slice ao kn kk) ∧ (∀ o, w'.frozen? ⟨pb, o, none⟩ = false) ∧ Hid (KB w w2 xb pb g kc E D N F op ps (.slice ao' kn' kk') (ks ++ [k]) (w'.setCell ⟨pb, 3, none⟩ (.slice ao' kn' kk'))) := by
 have hl := h.lt
 have keep : ∀ b, b ≤ pb → w'.heap[b]? = wr.heap[b]? := by
   intro b hb
   have h1 := hg.block b (by show b < (wr.alloc o).heap.size; simp; omega) (fun e => by have := (h.own.lt b e.symm).1; omega)
   rw [h1]
   show (wr.alloc o).heap[b]? = _
   exact Below.heap_alloc _ _ _ (by omega)
 have hs : wr.heap.size ≤ w'.heap.size := by
   have h1 : (wr.alloc o).heap.size ≤ w'.heap.size := hg.size
   simp at h1; omega
 have hbel : Below w.heap.size w w' := ⟨hg.os.trans h.bel.os, hg.tape.trans h.bel.tape, hg.output.trans h.bel.output, Nat.le_trans h.bel.size hs, fun b hb => (keep b (by omega)).trans (h.bel.block b hb)⟩
 have hpo := (keep pb (Nat.le_refl _)).trans h.po
 have hform : ∃ ao' kn' kk', v' = .slice ao' kn' kk' := by
   rcases ho.2 with ⟨h1, _⟩ | ⟨g', cap, cur, hv, _⟩
   · exact ⟨_, _, _, h1⟩
   · exact ⟨_, _, _, hv⟩
 obtain ⟨ao', kn', kk', rfl⟩ := hform
 refine ⟨ao', kn', kk', rfl, by rw [cell_of_heap hpo]; rfl, fun o => frozen_of_heap hpo o, ?_⟩
 apply hid
 have far : ∀ b, b < pb → (w'.setCell ⟨pb, 3, none⟩ (.slice ao' kn' kk')).heap[b]? = wr.heap[b]? := fun b hb => (((Frx.refl w'.heap.size pb w').setCell 3 (.slice ao' kn' kk')).block b (by omega) (by omega)).trans (keep b (by omega))
 refine ⟨hbel.setCell (by show w.heap.size ≤ pb; omega) _, (far _ (by omega)).trans h.res, ⟨hl.1, hl.2.1, Nat.lt_of_lt_of_le (Nat.lt_of_lt_of_le hl.2.2.1 hs) ((Frx.refl 0 pb w').setCell 3 _).size, hl.2.2.2⟩, (far _ (by omega)).trans h.xo, (far _ (by omega)).trans h.gb, ?_, ?_⟩
 · rw [heap_setCell_same hpo]; rfl
 · have := ownsRow_setCell_at ho 3 (.slice ao' kn' kk')
   simpa using this
theorem below25b {w w2 : World} (h : Below w.heap.size w w2) (a0 a1 a2 a3 : Value) :
   Below w.heap.size w ((((w2.setCell ⟨w.heap.size, 0, none⟩ a0).setCell ⟨w.heap.size, 1, none⟩ a1).setCell ⟨w.heap.size, 2, none⟩ a2).setCell ⟨w.heap.size, 3, none⟩ a3) :=
 (((h.setCell (Nat.le_refl _) _).setCell (Nat.le_refl _) _).setCell (Nat.le_refl _) _).setCell (Nat.le_refl _) _
theorem cuts_len {s : ByteArray} {ps : List Nat} {ks : List Bs} (h : Cuts s ps ks) : ks.length ≤ s.size := by
 have h1 : ∀ i, i ≤ ks.length → i ≤ ps.getD i 0 := by
   intro i
   induction i with
   | zero => intro _; omega
   | succ i ih => intro hi; have := (h.2.1 i (by omega)).1; have := ih (by omega); omega
 exact Nat.le_trans (h1 _ (Nat.le_refl _)) (h.2.2 _ (by rw [h.1]; omega))
theorem res25b {w2 : World} {b : Nat} (h : w2.heap[b]? = some (.cells partsZ 82 (0, 0))) (a0 a1 a2 a3 : Value) :
   ((((w2.setCell ⟨b, 0, none⟩ a0).setCell ⟨b, 1, none⟩ a1).setCell ⟨b, 2, none⟩ a2).setCell ⟨b, 3, none⟩ a3).heap[b]? = some (.cells #[a0, a1, a2, a3] 82 (0, 0)) := by
 have h0 := heap_setCell_same h 0 a0
 have h1 := heap_setCell_same h0 1 a1
 have h2 := heap_setCell_same h1 2 a2
 have h3 := heap_setCell_same h2 3 a3
 rw [h3]
 rfl
set_option maxHeartbeats 8000000 in
set_option maxRecDepth 100000 in
theorem ropen_kids (c : UInt8) (l : Bs) (w : World) (hd : Tm.deep (c :: l) ≠ 0) (h110 : c ≠ 110) (h116 : c ≠ 116) :
   Calls Tryz.prog 106 #[St (c :: l)] w fun en w' => ∃ kids, en = .returned (.tuple #[.agg #[.int .u8 (c.toNat : Int), .int .i64 0, .string ⟨#[]⟩, kids], .bool true]) ∧
     w'.ownsRow w.heap.size 22 1 kids (Tm.kidsOf 63 (c :: l)).length ((Tm.kidsOf 63 (c :: l)).map St) ∧ Below w.heap.size w w' := by
 obtain ⟨t, ht⟩ : ∃ t, t = c :: l := ⟨_, rfl⟩
 rw [← ht] at hd ⊢
 have hsz : (⟨t.toArray⟩ : ByteArray).size = t.length := st_size t
 have hlen : 0 < t.length := by rw [ht]; simp
 have h0 : ∀ h, (((⟨t.toArray⟩ : ByteArray)[0]'h).toNat : Int) = (c.toNat : Int) := by subst ht; exact fun _ => rfl
 have e110 : ((c.toNat : Int) == 110) = false := byte_ne h110
 have e116 : ((c.toNat : Int) == 116) = false := byte_ne h116
 have HD := hid hd
 have HT := hid ht
 have HR : Hid ((Tm.deep t != 0) = true) := by apply hid; simpa using hd
 have HC := hid (And.intro h110 h116)
 clear hd ht h110 h116
 go_enter Tryz.func106, Tryz.ntmps106
 go_wp2_with fail
 refine (rright_any t _).mono ?_
 rintro e w1 ⟨rfl, hb⟩
 rw [HR.out]
 obtain ⟨hbl, hh⟩ := parts_block w w1 hb
 have HB := hid hbl
 have HH := hid hh
 clear hb hbl hh
 go_wp2_with fail
 refine (read_whole t _ (Tm.deep_is HD.out).2).mono ?_
 rintro e w2 ⟨hb, E, D, N, F, ao, kn, kc, rfl, _, hT⟩
 obtain ⟨hD, hE, ha, hT⟩ := hT HD.out
 have hlt : w.heap.size < w1.heap.size := by
   apply Classical.byContradiction
   intro hn
   have hh := HH.out
   rw [Array.getElem?_eq_none (by omega)] at hh
   cases hh
 have hh2 : w2.heap[w.heap.size]? = some (.cells partsZ 82 (0, 0)) := (hb.block _ hlt).trans HH.out
 have hlt2 : w.heap.size < w2.heap.size := Nat.lt_of_lt_of_le hlt hb.size
 have HB2 := hid (HB.out.trans (hb.mono HB.out.size))
 have hk : ∃ ps, w2.ownsRow w1.heap.size 3 1 (.slice ao kn kc) ps.length (ints ps) ∧ Cuts ⟨t.toArray⟩ ps (Tm.kidsOf 63 t) := by
   have hr : rest ⟨t.toArray⟩ 0 = t := by simp [rest]
   have h0' : (⟨t.toArray⟩ : ByteArray)[0]'ha = c := by simp only [HT.out]; rfl
   rcases hT with ⟨h1, _⟩ | ⟨h1, _⟩ | ⟨_, _, ps, h3, h4⟩
   · rw [h0'] at h1; exact absurd h1 HC.out.1
   · rw [h0'] at h1; exact absurd h1 HC.out.2
   · rw [hr] at h4; exact ⟨ps, h3, h4⟩
 obtain ⟨ps, hown, hcut⟩ := hk
 obtain ⟨g, kc', hkv, hg, hgc⟩ := own_ints hown (by intro e; have := hcut.1; rw [e] at this; simp at this)
 obtain ⟨rfl, rfl, rfl⟩ : ao = some ⟨g, 0, none⟩ ∧ kn = ps.length ∧ kc = kc' := by simpa using hkv
 have HH2 := hid hh2
 have HCUT := hid hcut
 have HGC := hid hgc
 clear hT hb hh2 hlt HB HH hD hE hcut hgc hown hkv
 go_wp2_with fail
 have hkb := kb_start (g := g) (kc := kc) (E := E) (D := D) (N := N) (F := F) (op := (c.toNat : Int)) (ps := ps) HB2.out HH2.out hlt2 hg
 generalize World.alloc (World.alloc w2 (.cells #[.int .i64 E, .int .i64 D, .int .u64 N, .int .i64 F, .slice (some ⟨g, 0, none⟩) ps.length kc] 109)) (.cells #[.int .u8 (c.toNat : Int), .int .i64 0, .string ⟨#[]⟩, .slice none 0 0] 82) = W0 at hkb ⊢
 generalize w2.heap.size + 1 = pb at hkb ⊢
 generalize w2.heap.size = xb at hkb ⊢
 have HKB := hid hkb
 clear hkb
 obtain ⟨ks, hks⟩ : ∃ ks, ks = Tm.kidsOf 63 t := ⟨_, rfl⟩
 have HKS := hid hks
 clear hks
 have HPL : Hid (ps.length = ks.length + 1) := by apply hid; rw [HKS.out]; exact HCUT.out.1
 go_loopg [6] ks.length (fun gg iv wr => ∃ j : Nat, ∃ kv : Value, j ≤ ks.length ∧ gg = ks.length - j ∧ iv = .int .i64 ((j + 1 : Nat) : Int) ∧ (∃ ao kn kk, kv = .slice ao kn kk) ∧ KB w w2 xb pb g kc E D N F (c.toNat : Int) ps kv (ks.take j) wr)
 case atStart => exact ⟨0, _, by omega, rfl, rfl, ⟨_, _, _, rfl⟩, by simpa using HKB.out⟩
 case round =>
   obtain ⟨j, kv, hj, rfl, rfl, ⟨ao, kn, kk, rfl⟩, hkb⟩ := hrel
   have x4 : wr.cell? ⟨xb, 4, none⟩ = some (.slice (some ⟨g, 0, none⟩) ps.length kc) := by rw [cell_of_heap hkb.xo]; rfl
   have p0 : wr.cell? ⟨pb, 0, none⟩ = some (.int .u8 (c.toNat : Int)) := by rw [cell_of_heap hkb.po]; rfl
   have p1 : wr.cell? ⟨pb, 1, none⟩ = some (.int .i64 0) := by rw [cell_of_heap hkb.po]; rfl
   have p2 : wr.cell? ⟨pb, 2, none⟩ = some (.string ⟨#[]⟩) := by rw [cell_of_heap hkb.po]; rfl
   have p3 : wr.cell? ⟨pb, 3, none⟩ = some (.slice ao kn kk) := by rw [cell_of_heap hkb.po]; rfl
   have pf : ∀ o, wr.frozen? ⟨pb, o, none⟩ = false := fun o => frozen_of_heap hkb.po o
   have hlts := hkb.lt
   have HK := hid hkb
   clear hkb
   by_cases hjl : j < ks.length
   · have hjl' : ((j + 1 : Nat) : Int) < (ps.length : Int) := by have := HPL.out; omega
     have c0 : wr.cell? ⟨g, j, none⟩ = some (.int .i64 ((ps.getD j 0 : Nat) : Int)) := (World.cell?_of_block HK.out.gb).trans (HGC.out j (by have := HPL.out; omega))
     have c1 : wr.cell? ⟨g, j + 1, none⟩ = some (.int .i64 ((ps.getD (j + 1) 0 : Nat) : Int)) := (World.cell?_of_block HK.out.gb).trans (HGC.out (j + 1) (by have := HPL.out; omega))
     obtain ⟨z1, z2⟩ := HCUT.out.2.1 j (by rw [← HKS.out]; exact hjl)
     have z3 := HCUT.out.2.2 (j + 1) (by omega)
     rw [hsz] at z3
     generalize ps.getD j 0 = P0 at *
     generalize ps.getD (j + 1) 0 = P1 at *
     have HZ := hid z2
     clear z2
     obtain ⟨i0, hi, hz0, hz1, hz2⟩ := info_parts Tryz.info22
     have hown1 := fun o => ownsRow_new HK.out.own o
     have htl : (ks.take j).length = j := by rw [List.length_take]; omega
     have HTL := hid htl
     have hkl : ks.length ≤ 16384 := by
       have h1 := cuts_len HCUT.out
       rw [← HKS.out, hsz] at h1
       have h2 := (Tm.deep_is HD.out).2
       omega
     have hwj : IntKind.i64.wrap (j : Int) = (j : Int) := by rw [IntKind.wrap_i64]; omega
     have HP : Hid ((⟨t.toArray⟩ : ByteArray).extract P0 P1 = ⟨(ks.getD j []).toArray⟩) := by
       apply hid
       rw [extract_eq, HKS.out, HZ.out]
     have hP : P0 ≤ P1 := by omega
     have hPi : (P0 : Int) ≤ (P1 : Int) := by omega
     have hPt : (P1 : Int) ≤ (t.length : Int) := by omega
     have hj1 : (j : Int) < (ps.length : Int) := by have := HPL.out; omega
     have hj2 : (j : Int) + 1 < (ps.length : Int) := by have := HPL.out; omega
     have hj3 : (j : Int) < (ks.length : Int) := by omega
     have hj4 : 0 ≤ (j : Int) + 1 := by omega
     have HLT := hid hlts
     have HTK1 : Hid (ks.take (j + 1) = ks.take j ++ [ks.getD j []]) := by apply hid; rw [List.take_add_one]; simp [List.getD, hjl]
     have HMS : Hid (ks.length - (j + 1) < ks.length - j) := by apply hid; omega
     have HJS : Hid (j + 1 ≤ ks.length) := by apply hid; omega
     have HIV : Hid ((.int .i64 ((j : Int) + 1 + 1) : Value) = .int .i64 ((j + 1 + 1 : Nat) : Int)) := by apply hid; simp
     have HM1 : Hid ((ks.take j).length + 1 ≤ maxLen ∧ ((ks.take j).length + 1) * 16 ≤ 140737488355328) := by apply hid; rw [htl]; unfold maxLen; omega
     clear htl
     go_wp2_with fail
     have hpbs : pb < wr.heap.size := HLT.out.2.2.1
     clear p0 p1 p2 e110 e116 h0 hlen hlt2 hP hlts
     go_region_law (refine step_append_mine rfl (.tmp 41) (.tmp 55) 39 rfl 22 i0 _ 1 16 Tryz.underlying39 hi hz0 hz1 hz2 rfl (by decide) (pb + 1) (.slice ao kn kk) (ks.take j).length ((ks.take j).map St) rfl (hown1 _) ⟨wr.heap.size, 0, none⟩ 1 1 [.string ((⟨t.toArray⟩ : ByteArray).extract P0 P1)] rfl rfl (cell_one_new _ _ _) (by intro u hu; simp at hu; subst hu; rfl) HM1.out.1 HM1.out.2 (by have := HLT.out; simp; omega) ?_; intro v' w' hown hgrow; rw [HP.out] at hown; obtain ⟨ao', kn', kk', rfl, c3', f3', HKB'⟩ := kb_after HK.out hown hgrow; clear hown hgrow)
     all_goals
       go_wp2_with fail
       go_roundg (ks.length - (j + 1))
       case measure => exact HMS.out
       case rel =>
         refine ⟨j + 1, Value.slice ao' kn' kk', HJS.out, rfl, HIV.out, ⟨ao', kn', kk', rfl⟩, ?_⟩
         have hh := HKB'.out
         rw [← HTK1.out] at hh
         exact hh
   · have hjl' : ¬ ((j + 1 : Nat) : Int) < (ps.length : Int) := by have := HPL.out; omega
     have hje : j = ks.length := by omega
     obtain ⟨q0, q1, q2, q3, qf⟩ := partsZ_cells HK.out.res
     have HTK : Hid (ks.take j = ks) := by apply hid; rw [hje]; exact List.take_length
     go_wp2_with fail
     have hres := res25b HK.out.res (.int .u8 (c.toNat : Int)) (.int .i64 0) (.string ⟨#[]⟩) (.slice ao kn kk)
     have hbel := below25b HK.out.bel (.int .u8 (c.toNat : Int)) (.int .i64 0) (.string ⟨#[]⟩) (.slice ao kn kk)
     have hown := ownsRow_setCell_at (ownsRow_setCell_at (ownsRow_setCell_at (ownsRow_setCell_at (ownsRow_base HK.out.own (base' := w.heap.size + 1) (by omega)) 0 (.int .u8 (c.toNat : Int))) 1 (.int .i64 0)) 2 (.string ⟨#[]⟩)) 3 (.slice ao kn kk)
     generalize World.setCell (World.setCell (World.setCell (World.setCell wr ⟨w.heap.size, 0, none⟩ (.int .u8 (c.toNat : Int))) ⟨w.heap.size, 1, none⟩ (.int .i64 0)) ⟨w.heap.size, 2, none⟩ (.string ⟨#[]⟩)) ⟨w.heap.size, 3, none⟩ (.slice ao kn kk) = W at hres hbel hown ⊢
     have r0 : W.cell? ⟨w.heap.size, 0, none⟩ = some (.int .u8 (c.toNat : Int)) := by rw [cell_of_heap hres]; rfl
     have r1 : W.cell? ⟨w.heap.size, 1, none⟩ = some (.int .i64 0) := by rw [cell_of_heap hres]; rfl
     have r2 : W.cell? ⟨w.heap.size, 2, none⟩ = some (.string ⟨#[]⟩) := by rw [cell_of_heap hres]; rfl
     have r3 : W.cell? ⟨w.heap.size, 3, none⟩ = some (.slice ao kn kk) := by rw [cell_of_heap hres]; rfl
     rw [HTK.out] at hown
     refine bodyPost_ret (v := .tuple #[.agg #[.int .u8 (c.toNat : Int), .int .i64 0, .string ⟨#[]⟩, .slice ao kn kk], .bool true]) (by simp [results, Tryz.results106, go_sem, r0, r1, r2, r3]) rfl ⟨_, rfl, ?_, hbel⟩
     rw [← HKS.out]
     exact ownsRow_base hown (Nat.le_succ _)
theorem own_nil (w : World) (base : Nat) : w.ownsRow base 22 1 (.slice none 0 0) 0 [] := ⟨rfl, Or.inl ⟨rfl, rfl⟩⟩
theorem ropen_yes (c : UInt8) (l : Bs) (hd : Tm.deep (c :: l) ≠ 0) : OpenY 106 c l := by
 intro w
 by_cases c1 : c = 110
 · subst c1
   refine (ropen_name l w hd).mono ?_
   rintro e w' ⟨he, hb⟩
   have hk : Tm.kidsOf 63 (110 :: l) = [] := by rw [Tm.kidsOf]; simp
   refine ⟨.slice none 0 0, ?_, by rw [hk]; exact own_nil _ _, hb⟩
   rw [he]; simp [setN, setX]
 · by_cases c2 : c = 116
   · subst c2
     refine (ropen_text l w hd).mono ?_
     rintro e w' ⟨he, hb⟩
     have hk : Tm.kidsOf 63 (116 :: l) = [] := by rw [Tm.kidsOf]; simp
     refine ⟨.slice none 0 0, ?_, by rw [hk]; exact own_nil _ _, hb⟩
     rw [he]; simp [setN, setX]
   · refine (ropen_kids c l w hd c1 c2).mono ?_
     rintro e w' ⟨kids, he, ho, hb⟩
     refine ⟨kids, ?_, ho, hb⟩
     rw [he]; simp [setN, setX, c1, c2]
end Go.Proofs.YtkifchjpgdmcoaaGreatDoor
