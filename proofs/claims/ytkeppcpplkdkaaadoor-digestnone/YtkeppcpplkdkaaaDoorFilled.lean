/- The document's filling. -/
import Derived.Test.YtkeppcpplkdkaaaDoorDSum
import Derived.Deep.AppendSrc
namespace Go.Proofs.YtkeppcpplkdkaaaDoor
open Go.RowKit

/-- append, its run known -/
theorem wpList_append_run {P : Program} {w : World} {ops : Array Oper} {rest : List Oper} {o : Oper} {a : Act} {Q : Exit → Act → World → Prop} (hgd : o.guard = none) (s x : Operand) (t : TypeId)
    (ho : o.op = .call { callee := .builtin .append, args := #[s, x], argTypes := #[t, t] }) (v xv v' : Value) (w' : World) (hs : a.eval s = v) (hx : a.eval x = xv)
    (hrun : ∀ ty, (Builtin.append_ #[t, t] ty #[v, xv]).run P w = .ok v' w') (h : wpList P ops Q rest (a.put o.dst v') w') : wpList P ops Q (o :: rest) a w := by
  refine wpList_plain hgd fun K hK => ?_
  unfold Oper.wp
  simp [execOp, ho, resolve, invoke, builtin, hs, hx, hrun, Result.andThen]
  exact hK _ _ h
/-- bytes of any slice onto a row of one's own -/
theorem append_bytes (w : World) (base : Nat) (v : Value) (n : Nat) (xs : List Value) (hown : w.ownsRow base 5 1 v n xs) (a : Option Addr) (cap : Nat) (c : Bs) (hs : Sz w a cap c) (hn : n + c.length ≤ 1000000) (hb : base ≤ w.heap.size) :
    ∃ v' w', (∀ ty, (Builtin.append_ #[22, 22] ty #[v, .slice a c.length cap]).run Tryd.prog w = .ok v' w') ∧ w'.ownsRow base 5 1 v' (n + c.length) (xs ++ bys c) ∧ w.grownBy w' v.ownBlock := by
  obtain ⟨i0, hi, hz0, hz1, hz2⟩ := info_parts Tryd.info5
  by_cases h0 : 0 < c.length
  · obtain ⟨cb, co, rfl, hat⟩ := hs.som h0
    obtain ⟨v', w', h1, h2, h3, _⟩ := run_append_own (P := Tryd.prog) w base 22 22 5 i0 _ 1 1 Tryd.underlying22 hi hz0 hz1 hz2 rfl (by decide) v n xs hown ⟨cb, co, none⟩ c.length cap (bys c) (by simp) (fun j u hu => by
      have hj : j < c.length := by have := (List.getElem?_eq_some_iff.1 hu).1; simpa using this
      rw [add_off, hat.2 j hj, ← hu, bys_get hj]) (fun u hu => by obtain ⟨x, _, rfl⟩ := List.mem_map.1 hu; rfl) (by unfold maxLen; omega) (by omega) hb
    exact ⟨v', w', fun ty => h1, h2, h3⟩
  · obtain rfl : c = [] := List.eq_nil_of_length_eq_zero (by omega)
    have hrun : ∀ ty, (Builtin.append_ #[22, 22] ty #[v, .slice a 0 cap]).run Tryd.prog w = .ok v w := by
      intro ty
      rcases hown.2 with ⟨rfl, rfl⟩ | ⟨g, cp, cur, rfl, _, _, hle, _⟩
      · cases a <;> simp [Builtin.append_, Builtin.firstCells, run_underlying Tryd.underlying22, sizeOf, typeInfo, hi, Builtin.lenOf, go_sem]
      · cases a <;> simp [Builtin.append_, Builtin.firstCells, run_underlying Tryd.underlying22, sizeOf, typeInfo, hi, Builtin.lenOf, hle, storeCells, go_sem]
    refine ⟨v, w, hrun, ?_, ⟨rfl, rfl, rfl, Nat.le_refl _, fun _ _ _ => rfl⟩⟩
    simpa using hown

theorem own_slice' {w : World} {base : Nat} {e : TypeId} {v : Value} {n : Nat} {xs : List Value} (h : w.ownsRow base e 1 v n xs) : ∃ ao kc, v = .slice ao n kc := by
  rcases h.2 with ⟨h1, h2⟩ | ⟨g, cap, _, h1, _⟩
  · subst h2; exact ⟨_, _, h1⟩
  · exact ⟨_, _, h1⟩
theorem gap_no (n k : Nat) (h : k < gap n) : (n + 1 + k) % 64 ≠ 56 := by unfold gap at h; omega
theorem gap_yes (n : Nat) : (n + 1 + gap n) % 64 = 56 := by unfold gap; omega
theorem gap_le (n : Nat) : gap n < 64 := by unfold gap; omega
/-- what is filled up so far -/
def fil1 (c : Bs) (k : Nat) : Bs := c ++ 128 :: List.replicate k 0
theorem fil1_len (c : Bs) (k : Nat) : (fil1 c k).length = c.length + 1 + k := by simp [fil1]; omega
theorem fil1_snoc (c : Bs) (k : Nat) : bys (fil1 c (k + 1)) = bys (fil1 c k) ++ [.int .u8 0] := by
  simp [fil1, bys, List.replicate_succ']
theorem below_grown2 {w0 w w' : World} {e : TypeId} {size : Nat} {v : Value} {n : Nat} {xs : List Value} (hb : Below w0.heap.size w0 w) (ho : w.ownsRow w0.heap.size e size v n xs) (hg : w.grownBy w' v.ownBlock) : Below w0.heap.size w0 w' :=
  ⟨hg.os.trans hb.os, hg.tape.trans hb.tape, hg.output.trans hb.output, Nat.le_trans hb.size hg.size, fun k hk => (hg.block k (Nat.lt_of_lt_of_le hk hb.size) (fun e => by have := (ho.lt k e.symm).1; omega)).trans (hb.block k hk)⟩

set_option maxHeartbeats 4000000 in
set_option maxRecDepth 100000 in
theorem filled_any (w : World) (a : Option Addr) (cap : Nat) (c : Bs) (hs : Sz w a cap c) (hl : c.length < 10000) : Calls Tryd.prog 15 #[.slice a c.length cap] w fun en w' => ∃ v, en = .returned v ∧ w'.ownsRow w.heap.size 5 1 v (fil c).length (bys (fil c)) ∧ Below w.heap.size w w' := by
  obtain ⟨i0, hi, hz0, hz1, hz2⟩ := info_parts Tryd.info5
  obtain ⟨v1, w1, hrun1, hown1, hg1⟩ := append_bytes w w.heap.size (.slice none 0 0) 0 [] (World.ownsRow_nil _ _ _ _) a cap c hs (by omega) (Nat.le_refl _)
  have hb1 := below_grown2 (Below.refl _ w) (World.ownsRow_nil w w.heap.size 5 1) hg1
  rw [Nat.zero_add, List.nil_append] at hown1
  obtain ⟨ao1, kk1, rfl⟩ := own_slice' hown1
  have HO1 := hid hown1
  have HB1 := hid hb1
  have HRUN := hid hrun1
  have HL := hid hl
  clear hown1 hb1 hrun1 hg1 hs hl
  obtain ⟨n, hn⟩ : ∃ n, n = c.length := ⟨_, rfl⟩
  rw [← hn] at HRUN HO1
  rw [← hn]
  have HN := hid hn
  have hn1 : (n : Int) < 10000 := by have := HL.out; omega
  clear hn
  go_enter Tryd.func15, Tryd.ntmps15
  go_wp2_with (first | (at_builtin; refine wpList_append_run rfl (.tmp 6) (.tmp 7) 22 rfl (.slice none 0 0) (.slice a n cap) (.slice ao1 n kk1) w1 rfl rfl HRUN.out ?_) | (at_builtin; refine wpList_append_own _ rfl (.tmp 9) (.tmp 10) 22 rfl w.heap.size 5 i0 _ 1 1 Tryd.underlying22 hi hz0 hz1 hz2 rfl (by decide) (.slice ao1 n kk1) n (bys c) rfl (World.ownsRow.alloc HO1.out _) ⟨w1.heap.size, 0, none⟩ 1 1 [.int .u8 128] rfl rfl (cell_one_new _ _ _) (by intro u hu; simp at hu; subst hu; rfl) (by unfold maxLen; have := HL.out; have := HN.out; omega) (by have := HL.out; have := HN.out; omega) (by have := HB1.out.size; simp; omega) ?_; intro v2 w2 hown2 hg2 _; have HB2 := hid (below_grown2 (HB1.out.alloc HB1.out.size _) (World.ownsRow.alloc HO1.out _) hg2); have HO2 := hid hown2; obtain ⟨ao2, kk2, rfl⟩ := own_slice' hown2; clear hown2 hg2))
  clear HB1 HO1 HRUN
  obtain ⟨G, hG⟩ : ∃ G, G = gap n := ⟨_, rfl⟩
  have HG := hid hG
  clear hG
  go_loopg [3] G (fun gg v wr => ∃ k ao kk m, k ≤ G ∧ gg = G - k ∧ v = .slice ao m kk ∧ m = n + 1 + k ∧ wr.ownsRow w.heap.size 5 1 v m (bys (fil1 c k)) ∧ Below w.heap.size w wr)
  case atStart => exact ⟨0, _, _, _, by omega, rfl, rfl, rfl, by have := HO2.out; simpa [fil1, bys] using this, HB2.out⟩
  case round =>
    clear HB2 HO2
    obtain ⟨k, ao, kk, m, hk, rfl, rfl, hm, hO, hB⟩ := hrel
    have HO := hid hO
    have HB := hid hB
    have HM := hid hm
    clear hO hB
    have hGL := gap_le n
    rw [← HG.out] at hGL
    have HBD : Hid (m < 20000) := by apply hid; have := HL.out; have := HN.out; omega
    have hm1 : (m : Int) < 20000 := by have := HBD.out; omega
    by_cases hkl : k < G
    · have h56 : ¬ ((m : Int) % 64 = 56) := by
        have := gap_no n k (by rw [← HG.out]; exact hkl)
        rw [← HM.out] at this
        omega
      have HKL := hid hkl
      clear hm hk hkl hGL
      go_wp2_with (first | (at_builtin; refine wpList_append_own _ rfl (.tmp 16) (.tmp 17) 22 rfl w.heap.size 5 i0 _ 1 1 Tryd.underlying22 hi hz0 hz1 hz2 rfl (by decide) (.slice ao m kk) m (bys (fil1 c k)) rfl (World.ownsRow.alloc HO.out _) ⟨wr.heap.size, 0, none⟩ 1 1 [.int .u8 0] rfl rfl (cell_one_new _ _ _) (by intro u hu; simp at hu; subst hu; rfl) (by unfold maxLen; have := HBD.out; omega) (by have := HBD.out; omega) (by have := HB.out.size; simp; omega) ?_; intro v5 w5 hown5 hg5 _; have HB5 := hid (below_grown2 (HB.out.alloc HB.out.size _) (World.ownsRow.alloc HO.out _) hg5); have HO5 := hid hown5; obtain ⟨ao5, kk5, rfl⟩ := own_slice' hown5; clear hown5 hg5))
      go_roundg (G - (k + 1))
      case measure => have := HKL.out; omega
      case rel => exact ⟨k + 1, ao5, kk5, m + 1, HKL.out, rfl, rfl, by have := HM.out; omega, by rw [fil1_snoc]; exact HO5.out, HB5.out⟩
    · obtain rfl : k = G := by omega
      have h56 : (m : Int) % 64 = 56 := by
        have := gap_yes n
        rw [← HG.out, ← HM.out] at this
        omega
      have he8 : IntKind.u64.wrap ((n : Int) * 8) = (n : Int) * 8 := by rw [IntKind.wrap_u64]; omega
      clear hm hk hkl hGL
      have H56 := hid h56
      go_wp2_with fail
      obtain ⟨N8, hN8⟩ : ∃ N8 : Nat, (n : Int) * 8 = (N8 : Int) := ⟨8 * n, by omega⟩
      have HN8 : Hid (N8 = 8 * c.length) := by apply hid; have := HN.out; omega
      rw [hN8]
      clear hN8 he8 h56 hn1 hm1
      obtain ⟨F, hF⟩ : ∃ F, F = fil1 c k := ⟨_, rfl⟩
      rw [← hF] at HO
      have HF := hid hF
      clear hF
      go_loopg [3, 5] 8 (fun gg v vi wr => ∃ j ao kk m', j ≤ 8 ∧ gg = 8 - j ∧ v = .slice ao m' kk ∧ vi = .int .i64 (56 - 8 * (j : Int)) ∧ m' = m + j ∧ wr.ownsRow w.heap.size 5 1 v m' (bys (F ++ (len8 N8).take j)) ∧ Below w.heap.size w wr)
      case atStart => exact ⟨0, _, _, _, by omega, rfl, rfl, rfl, rfl, by simpa using HO.out, HB.out⟩
      case round =>
        clear HO HB
        obtain ⟨j, ao3, kk3, m3, hj, rfl, rfl, rfl, hm3, hO, hB⟩ := hrel
        have HO := hid hO
        have HB := hid hB
        have HM3 := hid hm3
        clear hO hB
        have HBE : Hid (m3 < 30000) := by apply hid; have := HBD.out; omega
        by_cases hjl : j < 8
        · rcases (by omega : j = 0 ∨ j = 1 ∨ j = 2 ∨ j = 3 ∨ j = 4 ∨ j = 5 ∨ j = 6 ∨ j = 7) with rfl | rfl | rfl | rfl | rfl | rfl | rfl | rfl
          all_goals clear hm3 hj hjl
          · go_wp2_with (first | (at_builtin; refine wpList_append_own _ rfl (.tmp 27) (.tmp 32) 22 rfl w.heap.size 5 i0 _ 1 1 Tryd.underlying22 hi hz0 hz1 hz2 rfl (by decide) (.slice ao3 m3 kk3) m3 (bys (F ++ (len8 N8).take 0)) rfl (World.ownsRow.alloc HO.out _) ⟨wr.heap.size, 0, none⟩ 1 1 [.int .u8 ((N8 : Int) / 72057594037927936 % 256)] rfl rfl (cell_one_new _ _ _) (by intro u hu; simp at hu; subst hu; rfl) (by unfold maxLen; have := HBE.out; omega) (by have := HBE.out; omega) (by have := HB.out.size; simp; omega) ?_; intro v6 w6 hown6 hg6 _; have HB6 := hid (below_grown2 (HB.out.alloc HB.out.size _) (World.ownsRow.alloc HO.out _) hg6); have HO6 := hid hown6; obtain ⟨ao6, kk6, rfl⟩ := own_slice' hown6; clear hown6 hg6))
            go_roundg (8 - (0 + 1))
            case measure => decide
            case rel =>
              refine ⟨0 + 1, _, _, m3 + 1, by decide, rfl, rfl, rfl, by have := HM3.out; omega, ?_, HB6.out⟩
              have e : bys (F ++ (len8 N8).take (0 + 1)) = bys (F ++ (len8 N8).take 0) ++ [.int .u8 ((N8 : Int) / 72057594037927936 % 256)] := by simp [len8, bys]
              rw [e]
              exact HO6.out
          · go_wp2_with (first | (at_builtin; refine wpList_append_own _ rfl (.tmp 27) (.tmp 32) 22 rfl w.heap.size 5 i0 _ 1 1 Tryd.underlying22 hi hz0 hz1 hz2 rfl (by decide) (.slice ao3 m3 kk3) m3 (bys (F ++ (len8 N8).take 1)) rfl (World.ownsRow.alloc HO.out _) ⟨wr.heap.size, 0, none⟩ 1 1 [.int .u8 ((N8 : Int) / 281474976710656 % 256)] rfl rfl (cell_one_new _ _ _) (by intro u hu; simp at hu; subst hu; rfl) (by unfold maxLen; have := HBE.out; omega) (by have := HBE.out; omega) (by have := HB.out.size; simp; omega) ?_; intro v6 w6 hown6 hg6 _; have HB6 := hid (below_grown2 (HB.out.alloc HB.out.size _) (World.ownsRow.alloc HO.out _) hg6); have HO6 := hid hown6; obtain ⟨ao6, kk6, rfl⟩ := own_slice' hown6; clear hown6 hg6))
            go_roundg (8 - (1 + 1))
            case measure => decide
            case rel =>
              refine ⟨1 + 1, _, _, m3 + 1, by decide, rfl, rfl, rfl, by have := HM3.out; omega, ?_, HB6.out⟩
              have e : bys (F ++ (len8 N8).take (1 + 1)) = bys (F ++ (len8 N8).take 1) ++ [.int .u8 ((N8 : Int) / 281474976710656 % 256)] := by simp [len8, bys]
              rw [e]
              exact HO6.out
          · go_wp2_with (first | (at_builtin; refine wpList_append_own _ rfl (.tmp 27) (.tmp 32) 22 rfl w.heap.size 5 i0 _ 1 1 Tryd.underlying22 hi hz0 hz1 hz2 rfl (by decide) (.slice ao3 m3 kk3) m3 (bys (F ++ (len8 N8).take 2)) rfl (World.ownsRow.alloc HO.out _) ⟨wr.heap.size, 0, none⟩ 1 1 [.int .u8 ((N8 : Int) / 1099511627776 % 256)] rfl rfl (cell_one_new _ _ _) (by intro u hu; simp at hu; subst hu; rfl) (by unfold maxLen; have := HBE.out; omega) (by have := HBE.out; omega) (by have := HB.out.size; simp; omega) ?_; intro v6 w6 hown6 hg6 _; have HB6 := hid (below_grown2 (HB.out.alloc HB.out.size _) (World.ownsRow.alloc HO.out _) hg6); have HO6 := hid hown6; obtain ⟨ao6, kk6, rfl⟩ := own_slice' hown6; clear hown6 hg6))
            go_roundg (8 - (2 + 1))
            case measure => decide
            case rel =>
              refine ⟨2 + 1, _, _, m3 + 1, by decide, rfl, rfl, rfl, by have := HM3.out; omega, ?_, HB6.out⟩
              have e : bys (F ++ (len8 N8).take (2 + 1)) = bys (F ++ (len8 N8).take 2) ++ [.int .u8 ((N8 : Int) / 1099511627776 % 256)] := by simp [len8, bys]
              rw [e]
              exact HO6.out
          · go_wp2_with (first | (at_builtin; refine wpList_append_own _ rfl (.tmp 27) (.tmp 32) 22 rfl w.heap.size 5 i0 _ 1 1 Tryd.underlying22 hi hz0 hz1 hz2 rfl (by decide) (.slice ao3 m3 kk3) m3 (bys (F ++ (len8 N8).take 3)) rfl (World.ownsRow.alloc HO.out _) ⟨wr.heap.size, 0, none⟩ 1 1 [.int .u8 ((N8 : Int) / 4294967296 % 256)] rfl rfl (cell_one_new _ _ _) (by intro u hu; simp at hu; subst hu; rfl) (by unfold maxLen; have := HBE.out; omega) (by have := HBE.out; omega) (by have := HB.out.size; simp; omega) ?_; intro v6 w6 hown6 hg6 _; have HB6 := hid (below_grown2 (HB.out.alloc HB.out.size _) (World.ownsRow.alloc HO.out _) hg6); have HO6 := hid hown6; obtain ⟨ao6, kk6, rfl⟩ := own_slice' hown6; clear hown6 hg6))
            go_roundg (8 - (3 + 1))
            case measure => decide
            case rel =>
              refine ⟨3 + 1, _, _, m3 + 1, by decide, rfl, rfl, rfl, by have := HM3.out; omega, ?_, HB6.out⟩
              have e : bys (F ++ (len8 N8).take (3 + 1)) = bys (F ++ (len8 N8).take 3) ++ [.int .u8 ((N8 : Int) / 4294967296 % 256)] := by simp [len8, bys]
              rw [e]
              exact HO6.out
          · go_wp2_with (first | (at_builtin; refine wpList_append_own _ rfl (.tmp 27) (.tmp 32) 22 rfl w.heap.size 5 i0 _ 1 1 Tryd.underlying22 hi hz0 hz1 hz2 rfl (by decide) (.slice ao3 m3 kk3) m3 (bys (F ++ (len8 N8).take 4)) rfl (World.ownsRow.alloc HO.out _) ⟨wr.heap.size, 0, none⟩ 1 1 [.int .u8 ((N8 : Int) / 16777216 % 256)] rfl rfl (cell_one_new _ _ _) (by intro u hu; simp at hu; subst hu; rfl) (by unfold maxLen; have := HBE.out; omega) (by have := HBE.out; omega) (by have := HB.out.size; simp; omega) ?_; intro v6 w6 hown6 hg6 _; have HB6 := hid (below_grown2 (HB.out.alloc HB.out.size _) (World.ownsRow.alloc HO.out _) hg6); have HO6 := hid hown6; obtain ⟨ao6, kk6, rfl⟩ := own_slice' hown6; clear hown6 hg6))
            go_roundg (8 - (4 + 1))
            case measure => decide
            case rel =>
              refine ⟨4 + 1, _, _, m3 + 1, by decide, rfl, rfl, rfl, by have := HM3.out; omega, ?_, HB6.out⟩
              have e : bys (F ++ (len8 N8).take (4 + 1)) = bys (F ++ (len8 N8).take 4) ++ [.int .u8 ((N8 : Int) / 16777216 % 256)] := by simp [len8, bys]
              rw [e]
              exact HO6.out
          · go_wp2_with (first | (at_builtin; refine wpList_append_own _ rfl (.tmp 27) (.tmp 32) 22 rfl w.heap.size 5 i0 _ 1 1 Tryd.underlying22 hi hz0 hz1 hz2 rfl (by decide) (.slice ao3 m3 kk3) m3 (bys (F ++ (len8 N8).take 5)) rfl (World.ownsRow.alloc HO.out _) ⟨wr.heap.size, 0, none⟩ 1 1 [.int .u8 ((N8 : Int) / 65536 % 256)] rfl rfl (cell_one_new _ _ _) (by intro u hu; simp at hu; subst hu; rfl) (by unfold maxLen; have := HBE.out; omega) (by have := HBE.out; omega) (by have := HB.out.size; simp; omega) ?_; intro v6 w6 hown6 hg6 _; have HB6 := hid (below_grown2 (HB.out.alloc HB.out.size _) (World.ownsRow.alloc HO.out _) hg6); have HO6 := hid hown6; obtain ⟨ao6, kk6, rfl⟩ := own_slice' hown6; clear hown6 hg6))
            go_roundg (8 - (5 + 1))
            case measure => decide
            case rel =>
              refine ⟨5 + 1, _, _, m3 + 1, by decide, rfl, rfl, rfl, by have := HM3.out; omega, ?_, HB6.out⟩
              have e : bys (F ++ (len8 N8).take (5 + 1)) = bys (F ++ (len8 N8).take 5) ++ [.int .u8 ((N8 : Int) / 65536 % 256)] := by simp [len8, bys]
              rw [e]
              exact HO6.out
          · go_wp2_with (first | (at_builtin; refine wpList_append_own _ rfl (.tmp 27) (.tmp 32) 22 rfl w.heap.size 5 i0 _ 1 1 Tryd.underlying22 hi hz0 hz1 hz2 rfl (by decide) (.slice ao3 m3 kk3) m3 (bys (F ++ (len8 N8).take 6)) rfl (World.ownsRow.alloc HO.out _) ⟨wr.heap.size, 0, none⟩ 1 1 [.int .u8 ((N8 : Int) / 256 % 256)] rfl rfl (cell_one_new _ _ _) (by intro u hu; simp at hu; subst hu; rfl) (by unfold maxLen; have := HBE.out; omega) (by have := HBE.out; omega) (by have := HB.out.size; simp; omega) ?_; intro v6 w6 hown6 hg6 _; have HB6 := hid (below_grown2 (HB.out.alloc HB.out.size _) (World.ownsRow.alloc HO.out _) hg6); have HO6 := hid hown6; obtain ⟨ao6, kk6, rfl⟩ := own_slice' hown6; clear hown6 hg6))
            go_roundg (8 - (6 + 1))
            case measure => decide
            case rel =>
              refine ⟨6 + 1, _, _, m3 + 1, by decide, rfl, rfl, rfl, by have := HM3.out; omega, ?_, HB6.out⟩
              have e : bys (F ++ (len8 N8).take (6 + 1)) = bys (F ++ (len8 N8).take 6) ++ [.int .u8 ((N8 : Int) / 256 % 256)] := by simp [len8, bys]
              rw [e]
              exact HO6.out
          · go_wp2_with (first | (at_builtin; refine wpList_append_own _ rfl (.tmp 27) (.tmp 32) 22 rfl w.heap.size 5 i0 _ 1 1 Tryd.underlying22 hi hz0 hz1 hz2 rfl (by decide) (.slice ao3 m3 kk3) m3 (bys (F ++ (len8 N8).take 7)) rfl (World.ownsRow.alloc HO.out _) ⟨wr.heap.size, 0, none⟩ 1 1 [.int .u8 ((N8 : Int) % 256)] rfl rfl (cell_one_new _ _ _) (by intro u hu; simp at hu; subst hu; rfl) (by unfold maxLen; have := HBE.out; omega) (by have := HBE.out; omega) (by have := HB.out.size; simp; omega) ?_; intro v6 w6 hown6 hg6 _; have HB6 := hid (below_grown2 (HB.out.alloc HB.out.size _) (World.ownsRow.alloc HO.out _) hg6); have HO6 := hid hown6; obtain ⟨ao6, kk6, rfl⟩ := own_slice' hown6; clear hown6 hg6))
            go_roundg (8 - (7 + 1))
            case measure => decide
            case rel =>
              refine ⟨7 + 1, _, _, m3 + 1, by decide, rfl, rfl, rfl, by have := HM3.out; omega, ?_, HB6.out⟩
              have e : bys (F ++ (len8 N8).take (7 + 1)) = bys (F ++ (len8 N8).take 7) ++ [.int .u8 ((N8 : Int) % 256)] := by simp [len8, bys]
              rw [e]
              exact HO6.out
        · obtain rfl : j = 8 := by omega
          have HFE : Hid (F ++ (len8 N8).take 8 = fil c) := by
            apply hid
            rw [List.take_of_length_le (Nat.le_refl 8), HF.out, fil, fil1, beh, HN8.out, HG.out, HN.out]
            simp
          clear hm3 hj hjl
          go_wp2_with fail
          go_ret
          refine ⟨_, rfl, ?_, HB.out⟩
          have h1 := HO.out
          rw [HFE.out] at h1
          have h2 := h1.1
          have h3 : m3 = (fil c).length := by rw [List.length_map] at h2; omega
          rw [← h3]
          exact h1
end Go.Proofs.YtkeppcpplkdkaaaDoor
