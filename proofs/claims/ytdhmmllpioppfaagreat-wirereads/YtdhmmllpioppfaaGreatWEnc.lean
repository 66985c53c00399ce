/- A message is put together. -/
import Derived.Test.YtdhmmllpioppfaaGreatWMay
namespace Go.Proofs.YtdhmmllpioppfaaGreat.V
open Go.RowKit

theorem numsB_succ (l : List Int) (i : Nat) (h : i < l.length) : numsB (l.take (i + 1)) = numsB (l.take i) ++ be 8 (u64 l[i]) := by
  unfold numsB
  rw [List.take_succ_eq_append_getElem h, List.map_append, List.flatten_append]
  simp
theorem termsB_succ (l : List Bs) (i : Nat) (h : i < l.length) : termsB (l.take (i + 1)) = termsB (l.take i) ++ (putB l[i].length ++ l[i]) := by
  unfold termsB
  rw [List.take_succ_eq_append_getElem h, List.map_append, List.flatten_append]
  simp [txt]
theorem numsB_len (l : List Int) : (numsB l).length = 8 * l.length := by
  unfold numsB
  induction l with
  | nil => rfl
  | cons a l ih =>
    simp only [List.map_cons, List.flatten_cons, List.length_append, be_len, List.length_cons, ih]
    omega
theorem put_short (n : Nat) : (putB n).length ≤ 9 := by rw [put_len]; exact sizeN_le (formN_lt n)
theorem termsB_len (l : List Bs) (h : ∀ t ∈ l, t.length ≤ 16384) : (termsB l).length ≤ 16400 * l.length := by
  unfold termsB
  induction l with
  | nil => simp
  | cons a l ih =>
    have h1 := ih (fun t ht => h t (by simp [ht]))
    have h2 := h a (by simp)
    have h3 := put_short a.length
    simp only [List.map_cons, List.flatten_cons, List.length_append, List.length_cons, txt]
    omega
/-- where the putting stands -/
structure Pm (wE : World) (p x : Nat) (cs : Array Value) (l : Bs) (W : World) : Prop where
  row : Ww wE.heap.size p l W
  box : W.heap[x]? = some (.cells cs 27 (0, 0))
  bel : Below wE.heap.size wE W
  ne : x ≠ p
theorem Pm.step {wE : World} {p x : Nat} {cs : Array Value} {l l' : Bs} {W W' : World} (h : Pm wE p x cs l W) (hr : Ww wE.heap.size p l' W') (hb : Below wE.heap.size W W') (hk : Kp p W W') : Pm wE p x cs l' W' :=
  ⟨hr, (hk.2 x (lt_of_block h.box) h.ne (fun c fr e => by rw [h.box] at e; cases e)).trans h.box, h.bel.trans hb, h.ne⟩
theorem Pm.below {wE : World} {p x : Nat} {cs : Array Value} {l : Bs} {W W' : World} (h : Pm wE p x cs l W) (hb : Below W.heap.size W W') : Pm wE p x cs l W' :=
  ⟨h.row.below hb, (hb.block x (lt_of_block h.box)).trans h.box, h.bel.trans (hb.mono h.bel.size), h.ne⟩
set_option maxRecDepth 100000 in
set_option maxHeartbeats 8000000 in
theorem putMsg_any (wE w : World) (p : Nat) (an at' am : Option Addr) (cn ct cm : Nat) (m : Msg) (h : Ms wE (.slice an m.ns.length cn) (.slice at' m.ts.length ct) (.slice am m.mo.length cm) m) (hl : MLen m) (hm : mayB m = true) (hw : Ww wE.heap.size p [] w) (hb : Below wE.heap.size wE w) :
    Calls Tryz.prog 20 #[.pointer (some ⟨p, 0, none⟩), Mv m.k m.ch (.slice an m.ns.length cn) (.slice at' m.ts.length ct) m.tx (.slice am m.mo.length cm)] w fun e w' => e = .returned (.tuple #[]) ∧ Ww wE.heap.size p (msgB m) w' ∧ Below wE.heap.size wE w' := by
  obtain ⟨h1, h2, h3, h4, h5, h6⟩ := may_parts hm
  have HS : Hid (streamR m.mo = (streamB m.mo, 0) ∧ (streamB m.mo).length ≤ 32768) := hid (by
    have h7 := h5
    unfold streamR at h7 ⊢
    split
    · rename_i e; rw [if_pos e] at h7; cases h7
    · rename_i e
      rw [if_neg e] at h7
      split
      · rename_i e; rw [if_pos e] at h7; cases h7
      · rename_i e
        rw [if_neg e] at h7
        split
        · rename_i e; rw [if_pos e] at h7; cases h7
        · rename_i e; exact ⟨rfl, by omega⟩)
  have HT : Hid (∀ t ∈ m.ts, t.length ≤ 16384) := hid (fun t ht => (Tm.deep_is (h6 t ht)).2)
  have HNC : Hid (∀ i (h : i < m.ns.length), ∃ g o, an = some ⟨g, o, none⟩ ∧ ∀ W, Below wE.heap.size wE W → W.cell? ⟨g, o + i, none⟩ = some (.int .i64 m.ns[i])) := hid (fun i hi => by
    obtain ⟨g, o, e, hg, hc⟩ := h.ns.cells i hi
    exact ⟨g, o, e, fun W hb => by rw [← hc]; exact World.cell?_of_block (hb.block g hg)⟩)
  have HTC : Hid (∀ i (h : i < m.ts.length), ∃ g o, at' = some ⟨g, o, none⟩ ∧ ∀ W, Below wE.heap.size wE W → W.cell? ⟨g, o + i, none⟩ = some (St m.ts[i])) := hid (fun i hi => by
    obtain ⟨g, o, e, hg, hc⟩ := h.ts.cells i hi
    exact ⟨g, o, e, fun W hb => by rw [← hc]; exact World.cell?_of_block (hb.block g hg)⟩)
  have HST := hid (fun W (hb : Below wE.heap.size wE W) => stream_any W _ m.mo (h.mo.below hb) hl.mo)
  rw [HS.out.1] at HST
  have HK := hid hl.k
  have hk0 : (0 : Int) ≤ (m.k : Int) := by omega
  have hkw : IntKind.u64.wrap (m.k : Int) = (m.k : Int) := by have := hl.k; rw [IntKind.wrap_u64]; omega
  have HL1 := hid h1
  have HL2 := hid h2
  have HL3 := hid h3
  have HL4 := hid h4
  have hlt := hw.lt
  have HP0 : Hid (Pm wE p w.heap.size #[.int .u16 (m.k : Int), St m.ch, .slice an m.ns.length cn, .slice at' m.ts.length ct, St m.tx, .slice am m.mo.length cm] [] (w.alloc (.cells #[.int .u16 (m.k : Int), St m.ch, .slice an m.ns.length cn, .slice at' m.ts.length ct, St m.tx, .slice am m.mo.length cm] 27))) :=
    hid ⟨hw.alloc _, heap_alloc_new w _, hb.alloc hb.size _, by omega⟩
  have HMB : Hid (msgB m = be 2 m.k ++ (putB m.ch.length ++ m.ch) ++ putB m.ns.length ++ numsB m.ns ++ putB m.ts.length ++ termsB m.ts ++ (putB m.tx.length ++ m.tx) ++ streamB m.mo) := hid (by unfold msgB headB txt; simp only [List.append_assoc])
  have HL6 : Hid ((streamB m.mo).length ≤ 32768) := hid HS.out.2
  rw [HMB.out]
  clear h hl hm hw hb h1 h2 h3 h4 h5 h6 hlt HS HMB
  generalize streamB m.mo = sb at HST HL6
  generalize m.mo.length = q at HP0 HST
  generalize hts : m.ts = ts at HT HTC HL2 HP0
  generalize hns : m.ns = ns at HNC HL1 HP0
  generalize m.ch = ch at HL3 HP0
  generalize m.tx = tx at HL4 HP0
  generalize m.k = k at HK hk0 hkw HP0
  clear hts hns
  obtain ⟨n, hn⟩ : ∃ n, n = ns.length := ⟨_, rfl⟩
  obtain ⟨t, ht⟩ : ∃ t, t = ts.length := ⟨_, rfl⟩
  have HN := hid hn
  have HTT := hid ht
  have hn32 : n ≤ 32 := by rw [hn]; exact HL1.out
  have ht32 : t ≤ 32 := by rw [ht]; exact HL2.out
  rw [← hn, ← ht] at HP0 ⊢
  clear hn ht
  go_enter Tryz.func20, Tryz.ntmps20
  go_wp2_with fail
  have S0 := hid HP0.out.box
  go_region_held3 (fun wx => wx.cell? ⟨w.heap.size, 0, none⟩ = some (.int .u16 (k : Int))) (first | exact (cell_of_heap HP1.out.box 0).trans rfl | exact (cell_of_heap S0.out 0).trans rfl)
    (first | (go_at_call 35; refine (wide2_any k (HP0.out.row.below (Below.refl _ _).drew) (by simp)).mono ?_; rintro e w1 ⟨rfl, hr, hb1, hk1⟩; have HP1 := hid ((HP0.out.below (Below.refl _ _).drew).step hr hb1 hk1); clear hr hb1 hk1))
  rw [List.nil_append] at HP1
  clear HP0 S0
  have c1 : w1.cell? ⟨w.heap.size, 1, none⟩ = some (St ch) := (cell_of_heap HP1.out.box 1).trans rfl
  go_wp2_with fail
  refine (putText_any ch HP1.out.row (by have := HL3.out; rw [be_len]; omega)).mono ?_
  rintro e w2 ⟨rfl, hr, hb1, hk1⟩
  have HP2 := hid (HP1.out.step hr hb1 hk1)
  clear hr hb1 hk1 HP1 c1
  have c2 : w2.cell? ⟨w.heap.size, 2, none⟩ = some (.slice an n cn) := (cell_of_heap HP2.out.box 2).trans rfl
  have HLA : Hid ((be 2 k ++ (putB ch.length ++ ch)).length ≤ 200) := hid (by have := HL3.out; have := put_short ch.length; simp only [List.length_append, be_len]; omega)
  go_wp2_with fail
  refine (putCount_any n HP2.out.row (by omega) (by have := HLA.out; omega)).mono ?_
  rintro e w3 ⟨rfl, hr, hb1, hk1⟩
  have HP3 := hid (HP2.out.step hr hb1 hk1)
  clear hr hb1 hk1 HP2 c2
  have HLB : Hid ((be 2 k ++ (putB ch.length ++ ch) ++ putB n).length ≤ 300) := hid (by have := HLA.out; have := put_short n; rw [List.length_append]; omega)
  have c2 : w3.cell? ⟨w.heap.size, 2, none⟩ = some (.slice an n cn) := (cell_of_heap HP3.out.box 2).trans rfl
  clear HLA
  obtain ⟨l3, hl3⟩ : ∃ l3, l3 = be 2 k ++ (putB ch.length ++ ch) ++ putB n := ⟨_, rfl⟩
  have E3 := hid hl3
  rw [← hl3] at HP3 HLB
  clear hl3
  go_wp2_with fail
  clear c2
  obtain ⟨x, hx⟩ : ∃ x, x = w.heap.size := ⟨_, rfl⟩
  rw [← hx] at HP3 ⊢
  clear hx
  go_loopg [5, 29] n (fun gg _s5 s29 wr => ∃ i : Nat, i ≤ n ∧ gg = n - i ∧ s29 = .int .i64 (i : Int) ∧ Pm wE p x #[.int .u16 (k : Int), St ch, .slice an n cn, .slice at' t ct, St tx, .slice am q cm] (l3 ++ numsB (ns.take i)) wr)
  case atStart => exact ⟨0, by omega, by omega, rfl, by simpa [numsB] using HP3.out⟩
  case round =>
    clear HP3
    obtain ⟨i, hi, rfl, rfl, hpm⟩ := hrel
    have HPM := hid hpm
    clear hpm
    by_cases hil : i < n
    · have hi1 : (i : Int) < (n : Int) := by omega
      have hik : i < ns.length := by rw [← HN.out]; exact hil
      obtain ⟨g, o, hao, hce⟩ := HNC.out i hik
      subst hao
      have hc1 := hce wr HPM.out.bel
      have HSU := hid (numsB_succ ns i hik)
      have hwr : IntKind.u64.wrap ns[i] = ((u64 ns[i] : Nat) : Int) := by rw [IntKind.wrap_u64]; unfold u64; omega
      have HW := hid (wide8_any (u64 ns[i]) HPM.out.row (by have h8 := numsB_len (ns.take i); have := List.length_take_le i ns; have := HLB.out; rw [List.length_append]; omega))
      clear hce
      generalize ns[i] = y at hc1 HSU hwr HW
      generalize u64 y = u at HSU hwr HW
      go_wp2_with fail
      refine HW.out.mono ?_
      rintro e w4 ⟨rfl, hr, hb1, hk1⟩
      have HP4 := hid (HPM.out.step hr hb1 hk1)
      clear hr hb1 hk1 HW HPM
      go_wp2_with fail
      go_roundg (n - (i + 1))
      case measure => omega
      case rel => exact ⟨i + 1, by omega, rfl, by go_num, by rw [HSU.out, ← List.append_assoc]; exact HP4.out⟩
    · have hi1 : ¬ (i : Int) < (n : Int) := by omega
      have HE : Hid (ns.take i = ns) := hid (List.take_of_length_le (by rw [← HN.out]; omega))
      rw [HE.out] at HPM
      have HLC : Hid ((l3 ++ numsB ns).length ≤ 600) := hid (by have h8 := numsB_len ns; have := HLB.out; have := HN.out; rw [List.length_append]; omega)
      have HAS : Hid (∀ a b c d : Bs, l3 ++ numsB ns ++ a ++ b ++ c ++ d = (l3 ++ numsB ns) ++ a ++ b ++ c ++ d) := hid (fun _ _ _ _ => rfl)
      clear HE hil hi HNC HLB HAS
      obtain ⟨w5, rfl⟩ : ∃ w5, w5 = wr := ⟨_, rfl⟩
      obtain ⟨l5, hl5⟩ : ∃ l5, l5 = l3 ++ numsB ns := ⟨_, rfl⟩
      have E5 := hid hl5
      rw [← hl5] at HPM HLC
      clear hl5
      have c3 : w5.cell? ⟨x, 3, none⟩ = some (.slice at' t ct) := (cell_of_heap HPM.out.box 3).trans rfl
      go_wp2_with fail
      refine (putCount_any t HPM.out.row (by omega) (by have := HLC.out; omega)).mono ?_
      rintro e w6 ⟨rfl, hr, hb1, hk1⟩
      have HP6 := hid (HPM.out.step hr hb1 hk1)
      have HLD : Hid ((l5 ++ putB t).length ≤ 700) := hid (by have := HLC.out; have := put_short t; rw [List.length_append]; omega)
      clear hr hb1 hk1 HPM c3 HLC
      obtain ⟨l6, hl6⟩ : ∃ l6, l6 = l5 ++ putB t := ⟨_, rfl⟩
      have E6 := hid hl6
      rw [← hl6] at HP6 HLD
      clear hl6
      have c3 : w6.cell? ⟨x, 3, none⟩ = some (.slice at' t ct) := (cell_of_heap HP6.out.box 3).trans rfl
      go_wp2_with fail
      clear c3
      go_loopg [7, 48] t (fun gg _s7 s48 wr => ∃ i : Nat, i ≤ t ∧ gg = t - i ∧ s48 = .int .i64 (i : Int) ∧ Pm wE p x #[.int .u16 (k : Int), St ch, .slice an n cn, .slice at' t ct, St tx, .slice am q cm] (l6 ++ termsB (ts.take i)) wr)
      case atStart => exact ⟨0, by omega, by omega, rfl, by simpa [termsB] using HP6.out⟩
      case round =>
        clear HP6
        obtain ⟨j, hj, rfl, rfl, hpm⟩ := hrel
        have HPM := hid hpm
        clear hpm
        by_cases hjl : j < t
        · have hj1 : (j : Int) < (t : Int) := by omega
          have hjk : j < ts.length := by rw [← HTT.out]; exact hjl
          obtain ⟨g, o, hao, hce⟩ := HTC.out j hjk
          subst hao
          have hc1 := hce wr HPM.out.bel
          have HSU := hid (termsB_succ ts j hjk)
          have HW := hid (putText_any ts[j] HPM.out.row (by
            have h8 := termsB_len (ts.take j) (fun y hy => HT.out y (List.mem_of_mem_take hy))
            have := List.length_take_le j ts
            have := HLD.out
            have := HT.out ts[j] (List.getElem_mem hjk)
            rw [List.length_append]
            omega))
          clear hce
          generalize ts[j] = y at hc1 HSU HW
          go_wp2_with fail
          refine HW.out.mono ?_
          rintro e w7 ⟨rfl, hr, hb1, hk1⟩
          have HP7 := hid (HPM.out.step hr hb1 hk1)
          clear hr hb1 hk1 HW HPM
          go_wp2_with fail
          go_roundg (t - (j + 1))
          case measure => omega
          case rel => exact ⟨j + 1, by omega, rfl, by go_num, by rw [HSU.out, ← List.append_assoc]; exact HP7.out⟩
        · have hj1 : ¬ (j : Int) < (t : Int) := by omega
          have HE : Hid (ts.take j = ts) := hid (List.take_of_length_le (by rw [← HTT.out]; omega))
          rw [HE.out] at HPM
          have HLC : Hid ((l6 ++ termsB ts).length ≤ 600000) := hid (by have h8 := termsB_len ts HT.out; have := HLD.out; have := HTT.out; rw [List.length_append]; omega)
          clear HE hjl hj HTC HLD
          obtain ⟨w8, rfl⟩ : ∃ w8, w8 = wr := ⟨_, rfl⟩
          obtain ⟨l8, hl8⟩ : ∃ l8, l8 = l6 ++ termsB ts := ⟨_, rfl⟩
          have E8 := hid hl8
          rw [← hl8] at HPM HLC
          clear hl8
          have c4 : w8.cell? ⟨x, 4, none⟩ = some (St tx) := (cell_of_heap HPM.out.box 4).trans rfl
          go_wp2_with fail
          refine (putText_any tx HPM.out.row (by have := HLC.out; have := HL4.out; omega)).mono ?_
          rintro e w9 ⟨rfl, hr, hb1, hk1⟩
          have HP9 := hid (HPM.out.step hr hb1 hk1)
          have HLD : Hid ((l8 ++ (putB tx.length ++ tx)).length ≤ 700000) := hid (by have := HLC.out; have := HL4.out; have := put_short tx.length; simp only [List.length_append]; omega)
          clear hr hb1 hk1 HPM c4 HLC
          obtain ⟨l9, hl9⟩ : ∃ l9, l9 = l8 ++ (putB tx.length ++ tx) := ⟨_, rfl⟩
          have E9 := hid hl9
          rw [← hl9] at HP9 HLD
          clear hl9
          have c5 : w9.cell? ⟨x, 5, none⟩ = some (.slice am q cm) := (cell_of_heap HP9.out.box 5).trans rfl
          go_wp2_with fail
          refine (HST.out w9 HP9.out.bel).mono ?_
          rintro e w10 ⟨ao, cap, rfl, hown, hb10⟩
          have HPX := hid (HP9.out.below hb10)
          have HSL : Hid (Sl w10 (.slice ao sb.length cap) sb) := hid (Sl.own hown rfl)
          clear hown hb10 HP9 c5
          go_wp2_with fail
          refine (wput_any HPX.out.row HSL.out (by have := HLD.out; have := HL6.out; omega)).mono ?_
          rintro e w11 ⟨rfl, hr, hb1, hk1⟩
          have HP11 := hid (HPX.out.step hr hb1 hk1)
          clear hr hb1 hk1
          go_wp2_with fail
          refine bodyPost_end (results_none rfl _ _ _) rfl ?_
          exact ⟨rfl, by have h9 := HP11.out.row; rw [E9.out, E8.out, E6.out, E5.out, E3.out] at h9; exact h9, HP11.out.bel⟩
end Go.Proofs.YtdhmmllpioppfaaGreat.V
