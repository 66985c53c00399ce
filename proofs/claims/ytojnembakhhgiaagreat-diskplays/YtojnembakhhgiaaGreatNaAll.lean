import Derived.Test.YtojnembakhhgiaaGreatRdAll
/- Names. -/
namespace Go.Proofs.YtojnembakhhgiaaGreat
open Go.RowKit Go.Maps Go.WideElems

theorem bs_total (a b : Bs) : (decide (a ≤ b) || decide (b ≤ a)) = true := by
  rcases Std.le_total (a := a) (b := b) with h | h <;> simp [h]
theorem bs_trans (a b c : Bs) (h1 : decide (a ≤ b) = true) (h2 : decide (b ≤ c) = true) : decide (a ≤ c) = true := by
  simp only [decide_eq_true_eq] at h1 h2 ⊢
  exact Std.le_trans h1 h2
theorem sorted_pair (l : List Bs) : (sorted l).Pairwise (fun a b => decide (a ≤ b) = true) := List.pairwise_mergeSort bs_trans bs_total l
theorem sorted_of_perm {K L : List Bs} (h : K.Perm L) (hs : L.Pairwise (fun a b => decide (a ≤ b) = true)) : sorted K = L := by
  have hp : (sorted K).Perm L := (List.mergeSort_perm K _).trans h
  refine hp.eq_of_pairwise (le := fun a b => decide (a ≤ b) = true) (fun a b _ _ h1 h2 => ?_) (sorted_pair K) hs
  simp only [decide_eq_true_eq] at h1 h2
  exact Std.le_antisymm h1 h2
theorem sorted_perm {K L : List Bs} (h : K.Perm L) : sorted K = sorted L := sorted_of_perm (h.trans (List.mergeSort_perm L _).symm) (sorted_pair L)
theorem nodup_len : ∀ {K L : List Bs}, K.Nodup → (∀ x ∈ K, x ∈ L) → K.length ≤ L.length
  | [], _, _, _ => Nat.zero_le _
  | a :: K, L, hn, hs => by
    obtain ⟨h1, h2⟩ := List.nodup_cons.1 hn
    have ha := hs a (by simp)
    have h3 := nodup_len (L := L.erase a) h2 (fun x hx => (List.mem_erase_of_ne (fun e : x = a => h1 (e ▸ hx))).2 (hs x (by simp [hx])))
    have h4 := (List.perm_cons_erase ha).length_eq
    rw [h4]
    simp only [List.length_cons]
    omega
def namesD (s : Ds) : List Bs := if s.off = true then [] else sorted (s.files.map Df.name)
theorem ssort_all (w : World) (base : Nat) (v : Value) (l : List Bs) (h : w.ownsRow base 9 1 v l.length (l.map St)) (hl : l.length < 1000000000) :
    Calls Tryz.prog 48 #[v] w fun e w' => e = .returned (.tuple #[]) ∧ w'.ownsRow base 9 1 v (sorted l).length ((sorted l).map St) ∧ w.grownBy w' v.ownBlock := by
  by_cases h0 : 0 < l.length
  · exact ssort_any w base v l h h0 (by omega)
  · have hl0 : l = [] := List.eq_nil_of_length_eq_zero (by omega)
    subst hl0
    obtain ⟨ao, cap, rfl⟩ : ∃ ao cap, v = .slice ao 0 cap := by
      rcases h.2 with ⟨h1, _⟩ | ⟨g, cap, _, h1, _⟩
      · exact ⟨_, _, h1⟩
      · exact ⟨_, _, h1⟩
    refine (ssort_zero ao cap w).mono ?_
    rintro e w' ⟨rfl, rfl⟩
    have e0 : sorted [] = [] := by simp [sorted]
    rw [e0]
    exact ⟨rfl, h, ⟨rfl, rfl, rfl, Nat.le_refl _, fun _ _ _ => rfl⟩⟩
set_option maxHeartbeats 8000000 in
set_option maxRecDepth 100000 in
theorem names_any (w : World) (d : Nat) (s : Ds) (mb : Option Nat) (ms : List Fm) (h : Dv w d s mb ms) :
    Calls Tryz.prog 17 #[.pointer (some ⟨d, 0, none⟩)] w fun e w' => ∃ v, e = .returned v ∧ w'.ownsRow w.heap.size 9 1 v (namesD s).length ((namesD s).map St) ∧ Below w.heap.size w w' := by
  have HRD := hid (ready_any w d s mb ms h)
  have c1 : w.cell? ⟨d, 1, none⟩ = some (.map mb) := (cell_of_heap h.blk 1).trans rfl
  cases ho : s.off with
  | true =>
    rw [ho] at HRD
    have HN : Hid (namesD s = []) := hid (by unfold namesD; rw [if_pos ho])
    clear h c1 ho
    go_enter Tryz.func17, Tryz.ntmps17
    go_wp2_with fail
    refine HRD.out.mono ?_
    rintro e w1 ⟨rfl, hw⟩
    subst hw
    go_wp2_with fail
    go_ret
    exact ⟨_, rfl, by rw [HN.out]; exact World.ownsRow_nil _ _ _ _, Below.refl _ _⟩
  | false =>
    rw [ho] at HRD
    have HN : Hid (namesD s = sorted (s.files.map Df.name)) := hid (by unfold namesD; rw [if_neg (by rw [ho]; decide)])
    cases mb with
    | none =>
      have hfs : s.files = [] := h.nomap rfl
      have HN2 : Hid (namesD s = sorted []) := hid (by rw [HN.out, hfs]; rfl)
      have hrg := run_range_nilMap (P := Tryz.prog) w 52 9 61 Tryz.underlying52
      have hnx : ∀ ty, (Instr.next (.pointer (some ⟨w.heap.size, 0, none⟩)) false ty).run Tryz.prog (w.alloc (.mapIter none 0 #[] 0)) = _ := fun ty => run_next_nilMap w ty 0 0 #[]
      have HSO := hid (ssort_all (w.alloc (.mapIter none 0 #[] 0)) w.heap.size (.slice none 0 0) [] (World.ownsRow_nil _ _ _ _) (by simp))
      have HB0 : Hid (Below w.heap.size w (w.alloc (.mapIter none 0 #[] 0))) := hid ((Below.refl _ _).alloc (Nat.le_refl _) _)
      clear h hfs ho HN
      go_enter Tryz.func17, Tryz.ntmps17
      go_wp2_with fail
      refine HRD.out.mono ?_
      rintro e w1 ⟨rfl, hw⟩
      subst hw
      go_wp2_with go_in
      refine wp_loop_rounds 1 ?_
      rw [rounds_succ]
      go_wp2_with fail
      refine HSO.out.mono ?_
      rintro e w2 ⟨rfl, hr, hg⟩
      have HR := hid hr
      have HB : Hid (Below w1.heap.size w1 w2) := hid ⟨hg.os.trans HB0.out.os, hg.tape.trans HB0.out.tape, hg.output.trans HB0.out.output, Nat.le_trans HB0.out.size hg.size, fun k hk => (hg.block k (Nat.lt_of_lt_of_le hk HB0.out.size) (fun e => by cases e)).trans (HB0.out.block k hk)⟩
      clear hr hg
      go_wp2_with fail
      go_ret
      exact ⟨_, rfl, by rw [HN2.out]; exact HR.out, HB.out⟩
    | some b =>
      obtain ⟨n, D, h1, h2, h3⟩ := (h.map b rfl).own
      have HD3 := hid h3
      have HP0 := hid (part_nil _ D h2)
      have HO := hid h1
      have HH := hid h
      have HBL := hid (h.map b rfl).lt
      clear h h1 h2 h3 ho
      go_enter Tryz.func17, Tryz.ntmps17
      go_wp2_with fail
      refine HRD.out.mono ?_
      rintro e w1 ⟨rfl, hw⟩
      have hw := hw.symm
      subst hw
      go_wp2_with (first
        | (at_range; refine wpList_range_own _ rfl _ 52 rfl 9 61 law9 Tryz.underlying52 _ b n _ rfl HO.out ?_; intro w0 hrg0 hg0 hs0)
        | go_in)
      go_frame
      have HB0 : Hid (Below w.heap.size w w0) := hid ⟨hg0.os, hg0.tape, hg0.output, hg0.size, fun k hk => hg0.block k hk (by simp)⟩
      have HR0 := hid hrg0
      have HS0 : Hid (w.heap.size + 1 ≤ w0.heap.size) := hid (by rw [hs0]; omega)
      clear hrg0 hg0 hs0
      go_loopw [3, 4] (fun vl _vk wr => ∃ K left cnt v, wr.ranges Tryz.prog 9 ptrR b w.heap.size n D left cnt ∧ Part (namesOf s ms) K left ∧ vl = v ∧ wr.ownsRow (w.heap.size + 1) 9 1 v K.length (K.map St) ∧ Below w.heap.size w wr ∧ w.heap.size + 1 ≤ wr.heap.size)
        (fun _ _ wr => wr.rangeLeft b w.heap.size)
      case atStart => exact ⟨[], _, _, _, HR0.out, HP0.out, rfl, World.ownsRow_nil _ _ _ _, HB0.out, HS0.out⟩
      case round =>
        clear HB0 HR0 HS0 HO HP0
        obtain ⟨K, left, cnt, v, hrg, hpt, hvl, hro, hbel, hsz⟩ := hrel
        have HRG := hid hrg
        have HPT := hid hpt
        have HRO := hid hro
        have HBE := hid hbel
        have HSZ := hid hsz
        have hkl : K.length ≤ 256 := by
          have h1 : ∀ x ∈ K, x ∈ s.files.map Df.name := fun x hx => names_few HH.out.len x (hpt.mem x hx)
          have h2 : K.length ≤ (s.files.map Df.name).length := nodup_len hpt.nodup h1
          rw [List.length_map] at h2
          have := HH.out.ok.few
          omega
        have HKL := hid hkl
        obtain ⟨ao, cap, hv⟩ := row_shape2 hro
        obtain ⟨kl, hkk⟩ : ∃ kl, kl = K.length := ⟨_, rfl⟩
        rw [← hkk] at hv
        clear hrg hpt hro hbel hsz hkl hkk
        subst hv
        subst hvl
        go_wp2_with (first
          | (at_next; refine next_file _ rfl rfl _ rfl b w.heap.size n _ _ _ rfl HRG.out ?_ ?_)
          | go_in)
        · intro _ hl0
          have hpm := HPT.out.perm HH.out.ok HH.out.len hl0
          have HSN : Hid (sorted K = namesD s) := hid (by rw [HN.out]; exact sorted_perm hpm)
          have HSO := hid (ssort_all wr (w.heap.size + 1) (.slice ao kl cap) K HRO.out (by have := HKL.out; omega))
          clear hl0 hpm
          go_wp2_with fail
          refine HSO.out.mono ?_
          rintro e w2 ⟨rfl, hr, hg⟩
          rw [HSN.out] at hr
          have HR : Hid (w2.ownsRow w.heap.size 9 1 (.slice ao kl cap) (namesD s).length ((namesD s).map St)) := hid ⟨hr.1, hr.2.imp id (fun ⟨g, cap, cur, e1, e2, e3⟩ => ⟨g, cap, cur, e1, by omega, e3⟩)⟩
          have HB : Hid (Below w.heap.size w w2) := hid ⟨hg.os.trans HBE.out.os, hg.tape.trans HBE.out.tape, hg.output.trans HBE.out.output, Nat.le_trans HBE.out.size hg.size, fun k hk => (hg.block k (Nat.lt_of_lt_of_le hk HBE.out.size) (fun e => by have := (own_ge HRO.out e.symm).1; omega)).trans (HBE.out.block k hk)⟩
          clear hr hg
          go_wp2_with fail
          go_ret
          exact ⟨_, rfl, HR.out, HB.out⟩
        · intro t m w1 cnt1 hl hat hrg1 hlt hg1 hs1 hen
          have hpt1 := HPT.out.step hl
          have hsm := (HPT.out.new hl).1
          have hb1 : Below w.heap.size w w1 := ⟨hg1.os.trans HBE.out.os, hg1.tape.trans HBE.out.tape, hg1.output.trans HBE.out.output, by rw [hs1]; exact HBE.out.size, fun k hk => (hg1.block k (Nat.lt_of_lt_of_le hk HBE.out.size) (fun e => by cases e; omega)).trans (HBE.out.block k hk)⟩
          have htl : t.length ≤ 100 := by
            have hm := names_few HH.out.len t hsm
            obtain ⟨f, hf, rfl⟩ := List.mem_map.1 hm
            have := HH.out.ok.lens f hf
            unfold named at this
            simp at this
            omega
          have hro1 : w1.ownsRow (w.heap.size + 1) 9 1 (.slice ao kl cap) K.length (K.map St) := ownsRow_same HRO.out (fun g hg => hg1.block g (own_ge HRO.out hg).2 (fun e => by cases e; have := (own_ge HRO.out hg).1; omega))
          have HCL := hid (clone_any ⟨t.toArray⟩ w1 (by show t.toArray.size ≤ 40000; simp; omega))
          have HAD : Hid (∀ w2, Below w1.heap.size w1 w2 → ∃ a5 n5 c5 w5, (∀ ty, (Builtin.append_ #[41, 41] ty #[.slice ao kl cap, .slice (some ⟨w2.heap.size, 0, none⟩) 1 1]).run Tryz.prog (w2.alloc (.cells #[St t] 9)) = .ok (.slice a5 n5 c5) w5) ∧ w5.ranges Tryz.prog 9 ptrR b w.heap.size n D (fun z => left z && !z.sameKey (.string t)) cnt1 ∧ w5.ownsRow (w.heap.size + 1) 9 1 (.slice a5 n5 c5) (K ++ [t]).length ((K ++ [t]).map St) ∧ Below w.heap.size w w5 ∧ w.heap.size + 1 ≤ w5.heap.size) := hid (fun w2 hB2 => by
            have hro2 : w2.ownsRow (w.heap.size + 1) 9 1 (.slice ao kl cap) K.length (K.map St) := ownsRow_same hro1 (fun g hg => hB2.block g (own_ge hro1 hg).2)
            have hz := HSZ.out
            have hz2 := hB2.size
            obtain ⟨v5, w5, r1, r2, r3⟩ := tx_more t hro2 (by have := HKL.out; omega) (by omega)
            obtain ⟨a5, c5, hv5⟩ := row_shape2 r2
            have hne : ∀ g, g < w.heap.size + 1 → w5.heap[g]? = w1.heap[g]? := fun g hg => (r3.block g (by omega) (fun e => by have := (own_ge hro2 e.symm).1; omega)).trans (hB2.block g (by omega))
            refine ⟨a5, _, c5, w5, fun ty => by rw [← hv5]; exact r1 ty, ranges_same hrg1 (hne b (by have := HBL.out; omega)) (hne w.heap.size (by omega)), by rw [← hv5]; exact r2, ?_, by have := r3.size; omega⟩
            exact ⟨r3.os.trans (hB2.os.trans hb1.os), r3.tape.trans (hB2.tape.trans hb1.tape), r3.output.trans (hB2.output.trans hb1.output), by have := r3.size; have := hb1.size; omega, fun k hk => (hne k (by omega)).trans (hb1.block k hk)⟩)
          have HPT1 := hid hpt1
          have HLT := hid hlt
          clear hpt1 hsm hb1 htl hro1 hat hl hrg1 hlt hg1 hs1
          go_wp2_with fail
          refine HCL.out.mono ?_
          rintro e w2 ⟨rfl, hB2⟩
          obtain ⟨a5, n5, c5, w5, hrn, q1, q2, q3, q4⟩ := HAD.out w2 hB2
          have HRN := hid hrn
          have Q1 := hid q1
          have Q2 := hid q2
          have Q3 := hid q3
          have Q4 := hid q4
          clear hB2 hrn q1 q2 q3 q4
          go_wp2_with (first | (at_builtin; refine wpList_append_run rfl (.tmp 17) (.tmp 20) 41 rfl (.slice ao kl cap) (.slice (some ⟨w2.heap.size, 0, none⟩) 1 1) (.slice a5 n5 c5) w5 rfl rfl HRN.out ?_) | fail)
          go_roundw
          case rel => exact ⟨_, _, cnt1, _, Q1.out, HPT1.out, rfl, Q2.out, Q3.out, Q4.out⟩
          case measure => rw [Q1.out.left_eq, HRG.out.left_eq]; exact HLT.out
end Go.Proofs.YtojnembakhhgiaaGreat

/- Are two lists of names the same? -/
namespace Go.Proofs.YtojnembakhhgiaaGreat
open Go.RowKit

set_option maxHeartbeats 8000000 in
set_option maxRecDepth 100000 in
theorem nsame_any (w : World) (a b : Value) (l k : List Bs) (ha : Tx w a l) (hb : Tx w b k) (hl : l.length ≤ 1000000) :
    Calls Tryz.prog 19 #[a, b] w fun e w' => e = .returned (.bool (decide (l = k))) ∧ Below w.heap.size w w' := by
  obtain ⟨ao, ca, rfl⟩ := row_shape ha
  obtain ⟨bo, cb, rfl⟩ := row_shape hb
  by_cases hlk : l.length = k.length
  · obtain ⟨n, hn⟩ : ∃ n, n = l.length := ⟨_, rfl⟩
    rw [← hlk, ← hn]
    have HA := hid ha
    have HB := hid hb
    have HN := hid hn
    have HLK := hid hlk
    have HL : Hid (n ≤ 1000000) := hid (by omega)
    have hnb : (n : Int) ≤ 1000000 := by omega
    clear ha hb hl hn hlk
    go_enter Tryz.func19, Tryz.ntmps19
    go_wp2_with fail
    go_loopg [5] n (fun gg vj wr => ∃ j : Nat, gg = n - j ∧ j ≤ n ∧ vj = .int .i64 (j : Int) ∧ Below w.heap.size w wr ∧ l.take j = k.take j)
    case atStart => exact ⟨0, rfl, Nat.zero_le _, rfl, Below.refl _ _, rfl⟩
    case round =>
      obtain ⟨j, rfl, hj, rfl, hbel, heq⟩ := hrel
      by_cases hjl : j < n
      · have hj1 : j < l.length := by have := HN.out; omega
        have hj2 : j < k.length := by have := HN.out; have := HLK.out; omega
        obtain ⟨g1, q1, e1, _, hc1⟩ := HA.out.at' (by omega)
        obtain ⟨g2, q2, e2, _, hc2⟩ := HB.out.at' (by omega)
        have c1 : wr.cell? ⟨g1, j, none⟩ = some (St l[j]) := by
          have := (hc1 j hj1).1
          rw [← this]
          exact World.cell?_of_block (hbel.block g1 (World.block_lt_of_cell? w ⟨g1, j, none⟩ this))
        have c2 : wr.cell? ⟨g2, j, none⟩ = some (St k[j]) := by
          have := (hc2 j hj2).1
          rw [← this]
          exact World.cell?_of_block (hbel.block g2 (World.block_lt_of_cell? w ⟨g2, j, none⟩ this))
        have f1 : ao = some ⟨g1, 0, none⟩ := by cases e1; rfl
        have f2 : bo = some ⟨g2, 0, none⟩ := by cases e2; rfl
        have HQ : Hid (l[j] = k[j] → l.take (j + 1) = k.take (j + 1)) := hid (fun e => by
          rw [List.take_add_one, List.take_add_one, List.getElem?_eq_getElem hj1, List.getElem?_eq_getElem hj2, heq, e])
        have HNE : Hid (l[j] ≠ k[j] → decide (l = k) = false) := hid (fun e => by
          refine decide_eq_false (fun h => e ?_)
          subst h
          rfl)
        obtain ⟨x, hx⟩ : ∃ x, x = l[j] := ⟨_, rfl⟩
        obtain ⟨y, hy⟩ : ∃ y, y = k[j] := ⟨_, rfl⟩
        rw [← hx] at c1 HQ HNE
        rw [← hy] at c2 HQ HNE
        have hjw : IntKind.i64.wrap ((j : Int) + 1) = ((j + 1 : Nat) : Int) := by rw [IntKind.wrap_i64]; have := HL.out; omega
        have hj0 : (0 : Int) ≤ (j : Int) := Int.natCast_nonneg _
        have hj3 : (j : Int) < (n : Int) := by omega
        have HJ := hid hjl
        have HBE := hid hbel
        clear hbel hc1 hc2 e1 e2 hj1 hj2 hj hjl heq hx hy
        subst f1
        subst f2
        by_cases hxy : x = y
        · have HQ2 := hid (HQ.out hxy)
          clear HQ HNE
          subst hxy
          go_wp2_with fail
          go_quiet (fail)
          all_goals
            go_wp2_with fail
            go_roundg (n - (j + 1))
            case measure => have := HJ.out; omega
            case rel => exact ⟨j + 1, rfl, HJ.out, rfl, ⟨HBE.out.os, HBE.out.tape, HBE.out.output, HBE.out.size, HBE.out.block⟩, HQ2.out⟩
        · have hne : (x == y) = false := by simpa using hxy
          go_wp2_with fail
          go_quiet (fail)
          all_goals
            go_wp2_with fail
            go_ret
            exact ⟨by rw [HNE.out hxy]; rfl, ⟨HBE.out.os, HBE.out.tape, HBE.out.output, HBE.out.size, HBE.out.block⟩⟩
      · have hje : j = n := by omega
        subst hje
        have HE : Hid (decide (l = k) = true) := hid (decide_eq_true (by
          rw [List.take_of_length_le (by have := HN.out; omega), List.take_of_length_le (by have := HN.out; have := HLK.out; omega)] at heq
          exact heq))
        have HBE := hid hbel
        have hjn : ¬ (j : Int) < (j : Int) := by omega
        clear hbel heq hj hjl
        go_wp2_with fail
        go_ret
        exact ⟨by rw [HE.out]; rfl, HBE.out⟩
  · have HE : Hid (decide (l = k) = false) := hid (decide_eq_false (fun e => hlk (by rw [e])))
    have h1 : ¬ (l.length : Int) = (k.length : Int) := by omega
    have h2 : ((l.length : Int) == (k.length : Int)) = false := by simpa using h1
    clear ha hb hlk hl
    generalize l.length = x at *
    generalize k.length = y at *
    go_enter Tryz.func19, Tryz.ntmps19
    go_wp2_with fail
    go_ret
    exact ⟨by rw [HE.out]; rfl, Below.refl _ _⟩
end Go.Proofs.YtojnembakhhgiaaGreat
