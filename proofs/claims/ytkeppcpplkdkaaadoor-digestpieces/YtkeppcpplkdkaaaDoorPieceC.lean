/- DigestPieces with few pieces. -/
import Derived.Test.YtkeppcpplkdkaaaDoorPieceB
namespace Go.Proofs.YtkeppcpplkdkaaaDoor
open Go.RowKit

theorem cat_bd (cs : List Bs) (hb : ∀ i, i < cs.length → (cs.getD i []).length ≤ 140737488355328) : ∀ i, i ≤ cs.length → (cat cs i).length ≤ i * 140737488355328
  | 0, _ => by simp [cat]
  | i + 1, h => by
    have ih := cat_bd cs hb i (by omega)
    have hi := hb i (by omega)
    rw [cat_succ cs i (by omega), List.length_append, Nat.add_mul]
    omega
/-- one piece of the slice -/
theorem Ls.get {w : World} {a : Option Addr} {cap : Nat} {cs : List Bs} (h : Ls w a cap cs) (i : Nat) (hi : i < cs.length) : ∃ lb lo ai ci, a = some ⟨lb, lo, none⟩ ∧ lb < w.heap.size ∧ w.cell? ⟨lb, lo + i, none⟩ = some (.slice ai (cs.getD i []).length ci) ∧ Sz w ai ci (cs.getD i []) := by
  obtain ⟨lb, lo, e, hlt, hc⟩ := h.som (by omega)
  obtain ⟨ai, ci, h1, h2⟩ := hc i hi
  exact ⟨lb, lo, ai, ci, e, hlt, h1, h2⟩

theorem own_sl {w : World} {base p : Nat} {v : Value} {n : Nat} {c : Bs} (h : w.ownsRow base 5 1 v n (bys c)) (hp : p < base) : ∃ a cap, v = .slice a n cap ∧ Sl w p a cap c := by
  have hl : c.length = n := by have := h.1; simpa using this
  rcases h.2 with ⟨h1, h2⟩ | ⟨g, cap, cur, hv, hb, hg, hc1, hc2, hc3, hc4⟩
  · subst h2; exact ⟨_, _, h1, by omega, fun h => by omega⟩
  · refine ⟨_, _, hv, by omega, fun h0 => ⟨g, 0, rfl, ⟨lt_of_block hg, fun i hi => ?_⟩, by omega⟩⟩
    have e : (cur.toList.take (n * 1))[i]? = some (.int .u8 (byt c i)) := by rw [hc4]; exact bys_get hi
    rw [Nat.mul_one, List.getElem?_take_of_lt (by omega), Array.getElem?_toList] at e
    rw [cell_of_heap hg, Nat.zero_add]
    exact e
theorem Oth.owns' {w w' : World} {p base n : Nat} {v : Value} {xs : List Value} (h : Oth w p w') (hp : v.ownBlock ≠ some p) (ho : w.ownsRow base 5 1 v n xs) : w'.ownsRow base 5 1 v n xs := by
  refine ⟨ho.1, ?_⟩
  rcases ho.2 with h2 | ⟨g, cap, cur, e1, e2, e3, e4⟩
  · exact Or.inl h2
  · have hne : g ≠ p := fun e => hp (by rw [e1, e]; rfl)
    exact Or.inr ⟨g, cap, cur, e1, e2, by rw [h.block g (lt_of_block e3) hne]; exact e3, e4⟩
theorem own_block_lt {w : World} {base n g : Nat} {v : Value} {xs : List Value} (ho : w.ownsRow base 5 1 v n xs) (hg : w.heap.size ≤ g) : v.ownBlock ≠ some g := by
  rcases ho.2 with ⟨h2, _⟩ | ⟨k, cap, cur, e1, _, e3, _⟩
  · rw [h2]; intro h; cases h
  · rw [e1]; intro h; have h3 := lt_of_block e3; have h4 : k = g := by simpa [Value.ownBlock] using h
    omega
theorem Oth.setIn {w w1 : World} {p o : Nat} (h : Oth w p w1) (v : Value) : Oth w p (w1.setCell ⟨p, o, none⟩ v) := h.setCell o v

set_option maxHeartbeats 8000000 in
set_option maxRecDepth 100000 in
theorem pieces_few (w : World) (a : Option Addr) (cap : Nat) (cs : List Bs) (hs : Ls w a cap cs) (hl : cs.length ≤ 60) (hb : ∀ i, i < cs.length → (cs.getD i []).length ≤ 140737488355328) (hkc : KC w) : Calls Tryd.prog 4 #[.slice a cs.length cap] w fun en w' => en = .returned (.bool true) ∧ Below w.heap.size w w' := by
  have HS := hid hs
  have HKC := hid hkc
  have HB := hid hb
  clear hs hkc hb
  obtain ⟨n, hn⟩ : ∃ n, n = cs.length := ⟨_, rfl⟩
  rw [← hn] at hl ⊢
  have HN := hid hn
  clear hn
  have hn1 : ¬ (60 : Int) < (n : Int) := by omega
  have HL := hid hl
  clear hl
  go_enter Tryd.func4, Tryd.ntmps4
  go_wp2_with fail
  go_loopg [3, 4] n (fun gg v3 v4 wr => ∃ i x : Nat, i ≤ n ∧ gg = n - i ∧ v3 = .int .i64 (x : Int) ∧ v4 = .int .i64 (i : Int) ∧ x = (cat cs i).length ∧ w = wr)
  case atStart => exact ⟨0, 0, by omega, rfl, rfl, rfl, rfl, rfl⟩
  case round =>
    obtain ⟨i, x, hi, rfl, rfl, rfl, hx, rfl⟩ := hrel
    have HX := hid hx
    have hxb : x ≤ i * 140737488355328 := by rw [hx]; exact cat_bd cs HB.out i (by rw [← HN.out]; exact hi)
    clear hx
    by_cases hil : i < n
    · have hi1 : (i : Int) < (n : Int) := by omega
      have HIL := hid hil
      have hi60 : (i : Int) < 60 := by have := HL.out; omega
      obtain ⟨lb, lo, ai, ci, rfl, hlt, hce, _⟩ := HS.out.get i (by rw [← HN.out]; exact hil)
      obtain ⟨m, hm⟩ : ∃ m, m = (cs.getD i []).length := ⟨_, rfl⟩
      have hmb : m ≤ 140737488355328 := by rw [hm]; exact HB.out i (by rw [← HN.out]; exact hil)
      rw [← hm] at hce
      have HXN : Hid (x + m = (cat cs (i + 1)).length) := by apply hid; rw [cat_succ cs i (by rw [← HN.out]; exact hil), List.length_append, HX.out, hm]
      have hxm : (x : Int) + (m : Int) < 9000000000000000 := by omega
      clear hi hil hm hxb hmb
      go_wp2_with fail
      go_roundg (n - (i + 1))
      case measure => have := HIL.out; omega
      case rel => exact ⟨i + 1, x + m, HIL.out, rfl, rfl, rfl, HXN.out, rfl⟩
    · have hi1 : ¬ (i : Int) < (n : Int) := by omega
      obtain rfl : n = i := by omega
      have HXF : Hid (x = cs.flatten.length) := by apply hid; rw [HX.out, HN.out, cat_all]
      clear hi hil hxb
      by_cases hx3 : 3000 < x
      · have hx3' : (3000 : Int) < (x : Int) := by omega
        go_wp2_with fail
        go_ret
        exact ⟨rfl, Below.refl _ _⟩
      · have hx3' : ¬ (3000 : Int) < (x : Int) := by omega
        have HT : Hid (cs.flatten.length ≤ 3000) := by apply hid; rw [← HXF.out]; omega
        clear hx3
        go_wp2_with fail
        refine (new_any _).mono ?_
        rintro e w1 ⟨rfl, hw1⟩
        have HS1 := hid (stt_new w)
        rw [← hw1] at HS1
        have HB1 : Hid (Below w.heap.size w w1) := by apply hid; rw [hw1]; exact below_alloc_self' w _
        have HZ1 : Hid (w1.heap.size = w.heap.size + 1) := by apply hid; rw [hw1]; simp
        clear hw1
        go_wp2_with fail
        refine (new_any _).mono ?_
        rintro e w2 ⟨rfl, hw2⟩
        have HQ2 := hid (stt_new w1)
        rw [← hw2] at HQ2
        have HB2 : Hid (Below w.heap.size w w2) := by apply hid; rw [hw2]; exact HB1.out.alloc HB1.out.size _
        have HS2 : Hid (Stt w2 w.heap.size [] s0s (noughts 64)) := by apply hid; rw [hw2]; exact HS1.out.below (below_alloc_self' w1 _)
        rw [HZ1.out] at HQ2 ⊢
        clear hw2 HS1 HB1
        have HPI : Hid (PI w w.heap.size (w.heap.size + 1) (cat cs 0) (.slice none 0 0) w2) := hid ⟨HB2.out, ⟨_, _, HS2.out⟩, ⟨_, _, HQ2.out⟩, World.ownsRow_nil _ _ _ _⟩
        clear HS2 HQ2 HB2 HZ1
        go_wp2_with fail
        obtain ⟨ps, hps⟩ : ∃ ps, ps = w.heap.size := ⟨_, rfl⟩
        obtain ⟨pq, hpq⟩ : ∃ pq, pq = w.heap.size + 1 := ⟨_, rfl⟩
        have HPS : Hid (w.heap.size ≤ ps ∧ ps < pq ∧ ps ≠ 0 ∧ pq ≠ 0) := by apply hid; have := HKC.out.1; omega
        rw [← hpq, ← hps] at HPI
        rw [← hpq, ← hps]
        clear hps hpq hi1 hx3'
        go_loopg [7, 8] n (fun gg v7 v8 wr => ∃ i : Nat, i ≤ n ∧ gg = n - i ∧ v8 = .int .i64 (i : Int) ∧ (∃ ao m kk, v7 = .slice ao m kk) ∧ PI w ps pq (cat cs i) v7 wr)
        case atStart => exact ⟨0, by omega, rfl, rfl, ⟨_, _, _, rfl⟩, HPI.out⟩
        case round =>
          clear HPI
          obtain ⟨i, hi, rfl, rfl, ⟨ao, m7, kk, rfl⟩, hPI⟩ := hrel
          have HPI := hid hPI
          clear hPI
          obtain ⟨a7, cap7, hv7, hsz7⟩ := own_sz HPI.out.all
          obtain ⟨rfl, rfl, rfl⟩ : ao = a7 ∧ (cat cs i).length = m7 ∧ kk = cap7 := by simpa [eq_comm] using hv7
          have HZ7 := hid hsz7
          clear hv7 hsz7
          have HBL : Hid ((cat cs i).length ≤ 3000) := by apply hid; have := cat_le cs i; have := HT.out; omega
          by_cases hil : i < n
          · have hi1 : (i : Int) < (n : Int) := by omega
            have HIL := hid hil
            have hi60 : (i : Int) < 60 := by have := HL.out; omega
            obtain ⟨lb, lo, ai, ci, ha, hlt, hce, hsc⟩ := HS.out.get i (by rw [← HN.out]; exact hil)
            have HCT : Hid (cat cs (i + 1) = cat cs i ++ cs.getD i []) := hid (cat_succ cs i (by rw [← HN.out]; exact hil))
            have HCL : Hid ((cs.getD i []).length ≤ 3000) := by apply hid; have := get_le cs i (by rw [← HN.out]; exact hil); have := HT.out; omega
            generalize cat cs i = b at HPI HZ7 HBL HCT ⊢
            generalize cs.getD i [] = c at hce hsc HCT HCL
            obtain ⟨m, hm⟩ : ∃ m, m = c.length := ⟨_, rfl⟩
            rw [← hm] at hce HCL
            have HM := hid hm
            have HCE := hid hce
            have HSC := hid hsc
            have HLT := hid hlt
            subst ha
            clear hi hil hm hce hsc hlt
            obtain ⟨s1, t1, hst⟩ := HPI.out.s
            have HC1 := hid (ssum_any wr ps b s1 t1 hst (by have := HBL.out; omega) (HKC.out.below HPI.out.bel))
            clear hst
            have HC2 : Hid (∀ W : World, Below wr.heap.size wr W → Calls Tryd.prog 7 #[.slice ao b.length kk] W fun en w' => en = .returned (vsum (sumS b)) ∧ Below W.heap.size W w') := hid (fun W h => sum_any W ao kk b (HZ7.out.below h) (by have := HBL.out; omega) ((HKC.out.below HPI.out.bel).below h))
            have HSE : Hid (∀ W, (Op.equalIn 10000 23 (vsum (sumS b)) (vsum (sumS b))).run Tryd.prog W = .ok true W) := hid (sum_eq _)
            unfold vsum at HSE HC1 HC2
            generalize (u8s (outs (sumS b))).toArray = OO at HSE HC1 HC2
            obtain ⟨mb, hmb⟩ : ∃ mb, mb = b.length := ⟨_, rfl⟩
            rw [← hmb] at HC2 HBL ⊢
            have HMB := hid hmb
            clear hmb
            have hse := HSE.out
            go_wp2_with fail
            refine HC1.out.mono ?_
            rintro e w3 ⟨rfl, hb3⟩
            have HP3 := hid (HPI.out.below hb3)
            have HD3 := hid hb3
            clear hb3 HC1
            go_wp2_with fail
            refine (HC2.out w3 HD3.out).mono ?_
            rintro e w4 ⟨rfl, hb4⟩
            have HP4 := hid (HP3.out.below hb4)
            clear hb4 HC2 HP3 HD3 HPI HZ7
            have hce4 : w4.cell? ⟨lb, lo + i, none⟩ = some (.slice ai m ci) := (HP4.out.bel.cell (p := ⟨lb, lo + i, none⟩) HLT.out).trans HCE.out
            obtain ⟨v9, w5, hrun, hown9, hg9⟩ := append_bytes w4 w4.heap.size (.slice none 0 0) 0 [] (World.ownsRow_nil _ _ _ _) ai ci c (HSC.out.below HP4.out.bel) (by have := HCL.out; have := HM.out; omega) (Nat.le_refl _)
            have hb5 := below_grown2 (Below.refl _ w4) (World.ownsRow_nil w4 w4.heap.size 5 1) hg9
            rw [Nat.zero_add, List.nil_append, ← HM.out] at hown9
            rw [← HM.out] at hrun
            have HP5 := hid (HP4.out.below hb5)
            have HR5 := hid hrun
            have HO9 := hid hown9
            have HW4 : Hid (pq < w4.heap.size) := by apply hid; obtain ⟨_, _, h⟩ := HP4.out.q; exact h.lt
            have HA7 : Hid (∀ g, w4.heap.size ≤ g → (Value.slice ao mb kk).ownBlock ≠ some g) := by apply hid; intro g hg; have := own_block_lt HP4.out.all hg; rw [← HMB.out] at this; exact this
            obtain ⟨a9, cap9, hv9, hsl9⟩ := own_sl (p := ps) hown9 (by have := HW4.out; have := HPS.out; omega)
            subst hv9
            have HGC : Hid (∃ gc, w4.heap.size ≤ gc ∧ (0 < m → a9 = some ⟨gc, 0, none⟩ ∧ ∃ cur, w5.heap[gc]? = some (.cells cur 5 (0, 0)) ∧ m ≤ cur.size)) := by
              apply hid
              by_cases h0 : 0 < m
              · obtain ⟨g, cp, cur, h1, h2, h3, h4⟩ := own_blk hown9 h0
                cases h1
                exact ⟨g, h2, fun _ => ⟨rfl, cur, h3, h4⟩⟩
              · exact ⟨w4.heap.size, Nat.le_refl _, fun h => by omega⟩
            have HC3 : Hid (Calls Tryd.prog 14 #[.pointer (some ⟨ps, 0, none⟩), .slice a9 m cap9] w5 fun en w' => en = .returned (.tuple #[]) ∧ (∃ s' t', Stt w' ps (b ++ c) s' t') ∧ Oth w5 ps w') := by
              apply hid
              obtain ⟨s, t, h⟩ := HP5.out.s
              have hw := write_any w5 ps b s t a9 cap9 c h hsl9 (by have := HBL.out; have := HCL.out; have := HM.out; have := HMB.out; omega) (HKC.out.below HP5.out.bel) HPS.out.2.2.1
              rw [← HM.out] at hw
              exact hw
            clear hown9 hg9 hb5 hrun hsl9 HP4
            go_wp2_with (first | (at_builtin; refine wpList_append_run rfl (.tmp 50) (.tmp 54) 22 rfl (.slice none 0 0) (.slice ai m ci) (.slice a9 m cap9) w5 rfl rfl HR5.out ?_))
            refine HC3.out.mono ?_
            rintro e w6 ⟨rfl, hs6, ho6⟩
            have HS6 := hid hs6
            have HO6 := hid ho6
            clear hs6 ho6 HC3 hce4 HR5
            have HB6 := hid (HO6.out.to_below HP5.out.bel HPS.out.1)
            have hce6 : w6.cell? ⟨lb, lo + i, none⟩ = some (.slice ai m ci) := (HB6.out.cell (p := ⟨lb, lo + i, none⟩) HLT.out).trans HCE.out
            have HC4 : Hid (Calls Tryd.prog 14 #[.pointer (some ⟨pq, 0, none⟩), .slice ai m ci] w6 fun en w' => en = .returned (.tuple #[]) ∧ (∃ s' t', Stt w' pq (b ++ c) s' t') ∧ Oth w6 pq w') := by
              apply hid
              obtain ⟨s, t, h⟩ := HP5.out.q
              have hps := HPS.out
              have hw := write_any w6 pq b s t ai ci c (HO6.out.stt (by omega) h) (HSC.out.off HB6.out (by omega)) (by have := HBL.out; have := HCL.out; have := HM.out; have := HMB.out; omega) (HKC.out.below HB6.out) hps.2.2.2
              rw [← HM.out] at hw
              exact hw
            go_wp2_with fail
            refine HC4.out.mono ?_
            rintro e w7 ⟨rfl, hq7, ho7⟩
            have HQ7 := hid hq7
            have HO7 := hid ho7
            clear hq7 ho7 HC4 hce6
            have HB7 := hid (HO7.out.to_below HB6.out (by have := HPS.out; omega))
            have HS7 : Hid (∃ s t, Stt w7 ps (b ++ c) s t) := by apply hid; obtain ⟨s, t, h⟩ := HS6.out; exact ⟨s, t, HO7.out.stt (by have := HPS.out; omega) h⟩
            have HL7 : Hid (w7.ownsRow (pq + 1) 5 1 (.slice ao mb kk) b.length (bys b)) := by
              apply hid; have h := HP5.out.all; rw [← HMB.out] at h ⊢; exact HO7.out.owns (Nat.lt_succ_self _) (HO6.out.owns (by have := HPS.out; omega) h)
            have HG7 : Hid (∃ gc, w4.heap.size ≤ gc ∧ (0 < m → a9 = some ⟨gc, 0, none⟩ ∧ ∃ cur, w7.heap[gc]? = some (.cells cur 5 (0, 0)) ∧ m ≤ cur.size)) := by
              apply hid
              obtain ⟨gc, h1, h2⟩ := HGC.out
              refine ⟨gc, h1, fun h0 => ?_⟩
              obtain ⟨e1, cur, h3, h4⟩ := h2 h0
              have hw4 := HW4.out
              have hps := HPS.out
              have h5 : w6.heap[gc]? = some (.cells cur 5 (0, 0)) := (HO6.out.block gc (lt_of_block h3) (by omega)).trans h3
              exact ⟨e1, cur, (HO7.out.block gc (lt_of_block h5) (by omega)).trans h5, h4⟩
            obtain ⟨gc, hgc, hcur⟩ := HG7.out
            have HGC2 := hid hgc
            have HCUR := hid hcur
            clear hgc hcur HGC HG7 HO6 HO7 HS6 HB6 HP5 HO9
            go_wp2_with fail
            go_loopg [10] m (fun gg v10 wx => ∃ k : Nat, k ≤ m ∧ gg = m - k ∧ v10 = .int .i64 (k : Int) ∧ Oth w7 gc wx ∧ (0 < m → ∃ cur, wx.heap[gc]? = some (.cells cur 5 (0, 0)) ∧ m ≤ cur.size))
            case atStart => exact ⟨0, by omega, rfl, rfl, Oth.refl _ _, fun h => (HCUR.out h).2⟩
            case round =>
              obtain ⟨k, hk, rfl, rfl, hOx, hCx⟩ := hrel
              have HOX := hid hOx
              have HCX := hid hCx
              clear hOx hCx
              by_cases hkm : k < m
              · have hk1 : (k : Int) < (m : Int) := by omega
                have hm3 : (m : Int) ≤ 3000 := by have := HCL.out; omega
                have HKM := hid hkm
                obtain ⟨ea, _⟩ := HCUR.out (by omega)
                subst ea
                obtain ⟨cur, hcb, hcs⟩ := HCX.out (by omega)
                have HCB := hid hcb
                have HCS := hid hcs
                obtain ⟨v0, hv0⟩ : ∃ v, wr.cell? ⟨gc, k, none⟩ = some v := by
                  rw [cell_of_heap hcb]; exact ⟨_, Array.getElem?_eq_getElem (by omega)⟩
                have hf0 := fun o => frozen_of_heap hcb o
                clear hk hkm hcb hcs
                go_wp2_with fail
                go_roundg (m - (k + 1))
                case measure => have := HKM.out; omega
                case rel =>
                  refine ⟨k + 1, HKM.out, rfl, rfl, HOX.out.setCell k _, fun _ => ⟨_, heap_setCell_same HCB.out k _, ?_⟩⟩
                  rw [Array.size_setIfInBounds]; exact HCS.out
              · have hk1 : ¬ (k : Int) < (m : Int) := by omega
                clear hk hkm HCX HCUR
                have hps := HPS.out
                have hw4 := HW4.out
                have hg2 := HGC2.out
                have HB8 := hid (HOX.out.to_below HB7.out (by have := HPS.out; have := HB7.out.size; omega))
                have HS8 : Hid (∃ s t, Stt wr ps (b ++ c) s t) := by apply hid; obtain ⟨s, t, h⟩ := HS7.out; exact ⟨s, t, HOX.out.stt (by omega) h⟩
                have HQ8 : Hid (∃ s t, Stt wr pq (b ++ c) s t) := by apply hid; obtain ⟨s, t, h⟩ := HQ7.out; exact ⟨s, t, HOX.out.stt (by omega) h⟩
                have HL8 : Hid (wr.ownsRow (pq + 1) 5 1 (.slice ao mb kk) b.length (bys b)) := hid (HOX.out.owns' (HA7.out gc hg2) HL7.out)
                have hce8 : wr.cell? ⟨lb, lo + i, none⟩ = some (.slice ai m ci) := (HB8.out.cell (p := ⟨lb, lo + i, none⟩) HLT.out).trans HCE.out
                obtain ⟨v7, w9, hrun, hown, hg⟩ := append_bytes wr (pq + 1) (.slice ao mb kk) b.length (bys b) HL8.out ai ci c (HSC.out.below HB8.out) (by have := HBL.out; have := HCL.out; have := HM.out; have := HMB.out; omega) (by obtain ⟨_, _, h⟩ := HQ8.out; have := h.lt; omega)
                rw [← HM.out] at hrun
                have HR9 := hid hrun
                have HPI9 : Hid (PI w ps pq (b ++ c) v7 w9) := by
                  apply hid
                  obtain ⟨s1, t1, h1⟩ := HS8.out
                  obtain ⟨s2, t2, h2⟩ := HQ8.out
                  refine ⟨grown_below HB8.out (by omega) HL8.out hg, ⟨s1, t1, grown_stt HL8.out (by omega) hg h1⟩, ⟨s2, t2, grown_stt HL8.out (by omega) hg h2⟩, ?_⟩
                  have e1 : bys (b ++ c) = bys b ++ bys c := by simp [bys]
                  rw [e1, List.length_append]
                  exact hown
                obtain ⟨a7', cap7', hv7⟩ := own_slice' hown
                subst hv7
                clear hown hg hrun hps hw4 hg2
                go_wp2_with (first | (at_builtin; refine wpList_append_run rfl (.tmp 74) (.tmp 78) 22 rfl (.slice ao mb kk) (.slice ai m ci) (.slice a7' (b.length + c.length) cap7') w9 rfl rfl HR9.out ?_))
                go_roundg (n - (i + 1))
                case measure => have := HIL.out; omega
                case rel => exact ⟨i + 1, HIL.out, rfl, rfl, ⟨_, _, _, rfl⟩, by rw [HCT.out]; exact HPI9.out⟩
          · have hi1 : ¬ (i : Int) < (n : Int) := by omega
            obtain rfl : n = i := by omega
            generalize cat cs n = b at HPI HZ7 HBL ⊢
            have HC1 : Hid (∀ W : World, PI w ps pq b (.slice ao b.length kk) W → Calls Tryd.prog 13 #[.pointer (some ⟨ps, 0, none⟩)] W fun en w' => en = .returned (vsum (sumS b)) ∧ PI w ps pq b (.slice ao b.length kk) w') := by
              apply hid; intro W h; obtain ⟨s, t, hst⟩ := h.s
              refine (ssum_any W ps b s t hst (by have := HBL.out; omega) (HKC.out.below h.bel)).mono ?_
              rintro e w' ⟨rfl, hb⟩; exact ⟨rfl, h.below hb⟩
            have HC2 : Hid (∀ W : World, PI w ps pq b (.slice ao b.length kk) W → Calls Tryd.prog 13 #[.pointer (some ⟨pq, 0, none⟩)] W fun en w' => en = .returned (vsum (sumS b)) ∧ PI w ps pq b (.slice ao b.length kk) w') := by
              apply hid; intro W h; obtain ⟨s, t, hst⟩ := h.q
              refine (ssum_any W pq b s t hst (by have := HBL.out; omega) (HKC.out.below h.bel)).mono ?_
              rintro e w' ⟨rfl, hb⟩; exact ⟨rfl, h.below hb⟩
            have HC3 : Hid (∀ W : World, PI w ps pq b (.slice ao b.length kk) W → Calls Tryd.prog 7 #[.slice ao b.length kk] W fun en w' => en = .returned (vsum (sumS b)) ∧ PI w ps pq b (.slice ao b.length kk) w') := by
              apply hid; intro W h
              obtain ⟨a8, c8, hv, hz⟩ := own_sz h.all
              obtain ⟨rfl, rfl⟩ : ao = a8 ∧ kk = c8 := by simpa [eq_comm] using hv
              refine (sum_any W ao kk b hz (by have := HBL.out; omega) (HKC.out.below h.bel)).mono ?_
              rintro e w' ⟨rfl, hb⟩; exact ⟨rfl, h.below hb⟩
            have HC4 : Hid (∀ W : World, PI w ps pq b (.slice ao b.length kk) W → Calls Tryd.prog 8 #[.slice ao b.length kk] W fun en w' => en = .returned (vsum (sumS b)) ∧ PI w ps pq b (.slice ao b.length kk) w') := by
              apply hid; intro W h
              obtain ⟨a8, c8, hv, hz⟩ := own_sz h.all
              obtain ⟨rfl, rfl⟩ : ao = a8 ∧ kk = c8 := by simpa [eq_comm] using hv
              refine (rsum_any W ao kk b hz (by have := HBL.out; omega)).mono ?_
              rintro e w' ⟨rfl, hb⟩; exact ⟨rfl, h.below hb⟩
            have HSE : Hid (∀ W, (Op.equalIn 10000 23 (vsum (sumS b)) (vsum (sumS b))).run Tryd.prog W = .ok true W) := hid (sum_eq _)
            unfold vsum at HSE HC1 HC2 HC3 HC4
            generalize (u8s (outs (sumS b))).toArray = OO at HSE HC1 HC2 HC3 HC4
            have HCW : Hid (∀ W : World, PI w ps pq b (.slice ao b.length kk) W → Calls Tryd.prog 11 #[] W fun en w' => en = .returned (.bool true) ∧ Below w.heap.size w w') := by
              apply hid; intro W h
              refine (works_any W (HKC.out.below h.bel)).mono ?_
              rintro e w' ⟨rfl, hb⟩; exact ⟨rfl, h.bel.trans (hb.mono h.bel.size)⟩
            generalize hP : PI w ps pq b (.slice ao b.length kk) = P at HPI HC1 HC2 HC3 HC4 HCW
            generalize b.length = mb at HC3 HC4 ⊢
            clear hP hi hil
            have hse := HSE.out
            go_wp2_with fail
            refine (HC1.out wr HPI.out).mono ?_
            rintro e w3 ⟨rfl, h3⟩
            have H3 := hid h3
            clear h3
            go_wp2_with fail
            refine (HC3.out w3 H3.out).mono ?_
            rintro e w4 ⟨rfl, h4⟩
            have H4 := hid h4
            clear h4
            go_wp2_with fail
            refine (HC2.out w4 H4.out).mono ?_
            rintro e w5 ⟨rfl, h5⟩
            have H5 := hid h5
            clear h5
            go_wp2_with fail
            refine (HC3.out w5 H5.out).mono ?_
            rintro e w6 ⟨rfl, h6⟩
            have H6 := hid h6
            clear h6
            go_wp2_with fail
            refine (HC1.out w6 H6.out).mono ?_
            rintro e w7 ⟨rfl, h7⟩
            have H7 := hid h7
            clear h7
            go_wp2_with fail
            refine (HC4.out w7 H7.out).mono ?_
            rintro e w8 ⟨rfl, h8⟩
            have H8 := hid h8
            clear h8
            go_wp2_with fail
            refine (HCW.out w8 H8.out).mono ?_
            rintro e w9 ⟨rfl, hb9⟩
            have H9 := hid hb9
            clear hb9
            go_wp2_with fail
            go_ret
            exact ⟨rfl, H9.out⟩
end Go.Proofs.YtkeppcpplkdkaaaDoor
