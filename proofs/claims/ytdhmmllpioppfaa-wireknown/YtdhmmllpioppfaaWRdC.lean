/- The reader's lists. -/
import Derived.Test.YtdhmmllpioppfaaWRdB
namespace Go.Proofs.Ytdhmmllpioppfaa.V
open Go.RowKit

theorem Try.info2 : (Try.prog.info? 2).map (fun i => (i.zero, i.size, i.bytes)) = some (some (.int .i64 0), 1, 8) := by kernel_rfl
theorem Try.info46 : (Try.prog.info? 46).map (fun i => (i.zero, i.size, i.bytes)) = some (some (.string ByteArray.empty), 1, 16) := by kernel_rfl
theorem cell_new_num (W : World) (x : Int) (j : Nat) (u : Value) (hu : [.int .i64 x][j]? = some u) : (W.alloc (.cells #[.int .i64 x] 2)).cell? ((⟨W.heap.size, 0, none⟩ : Addr).add j) = some u := by
  have hj : j = 0 := by
    apply Classical.byContradiction
    intro hn
    rw [List.getElem?_eq_none (by simp; omega)] at hu
    cases hu
  subst hj
  rw [add_plain, cell_of_heap (heap_alloc_new W _)]
  simpa using hu
theorem append_num (W : World) (B : Nat) (v : Value) (l : List Int) (x : Int) (hown : W.ownsRow B 2 1 v l.length (i64s l)) (hl : l.length < 1000000000000) (hB : B ≤ W.heap.size) :
    ∃ ao kc w', (∀ t, (Builtin.append_ #[23, 23] t #[v, .slice (some ⟨W.heap.size, 0, none⟩) 1 1]).run Try.prog (W.alloc (.cells #[.int .i64 x] 2)) = .ok (.slice ao (l.length + 1) kc) w') ∧ w'.ownsRow B 2 1 (.slice ao (l.length + 1) kc) (l ++ [x]).length (i64s (l ++ [x])) ∧ (W.alloc (.cells #[.int .i64 x] 2)).grownBy w' v.ownBlock := by
  obtain ⟨i0, hi, hz0, hz1, hz2⟩ := info_get Try.info2
  obtain ⟨v', w', h1, h2, h3, _⟩ := run_append_own (P := Try.prog) (W.alloc (.cells #[.int .i64 x] 2)) B 23 23 2 i0 _ 1 8 Try.underlying23 hi hz0 hz1 hz2 rfl (by decide) v l.length (i64s l) (hown.alloc _) ⟨W.heap.size, 0, none⟩ 1 1 [.int .i64 x] rfl (fun j u hu => cell_new_num W x j u hu) (fun u hu => by simp at hu; subst hu; rfl) (by unfold maxLen; omega) (by omega) (by simp; omega)
  have h4 : ∃ ao kc, v' = .slice ao (l.length + 1) kc := by
    rcases h2.2 with ⟨_, e⟩ | ⟨g, cap, _, e, _⟩
    · omega
    · exact ⟨_, _, e⟩
  obtain ⟨ao, kc, rfl⟩ := h4
  exact ⟨ao, kc, w', fun t => h1, by simpa using h2, h3⟩
theorem cell_new_term (W : World) (x : Bs) (j : Nat) (u : Value) (hu : [St x][j]? = some u) : (W.alloc (.cells #[St x] 46)).cell? ((⟨W.heap.size, 0, none⟩ : Addr).add j) = some u := by
  have hj : j = 0 := by
    apply Classical.byContradiction
    intro hn
    rw [List.getElem?_eq_none (by simp; omega)] at hu
    cases hu
  subst hj
  rw [add_plain, cell_of_heap (heap_alloc_new W _)]
  simpa using hu
theorem append_term (W : World) (B : Nat) (v : Value) (l : List Bs) (x : Bs) (hown : W.ownsRow B 46 1 v l.length (l.map St)) (hl : l.length < 1000000000000) (hB : B ≤ W.heap.size) :
    ∃ ao kc w', (∀ t, (Builtin.append_ #[24, 24] t #[v, .slice (some ⟨W.heap.size, 0, none⟩) 1 1]).run Try.prog (W.alloc (.cells #[St x] 46)) = .ok (.slice ao (l.length + 1) kc) w') ∧ w'.ownsRow B 46 1 (.slice ao (l.length + 1) kc) (l ++ [x]).length ((l ++ [x]).map St) ∧ (W.alloc (.cells #[St x] 46)).grownBy w' v.ownBlock := by
  obtain ⟨i0, hi, hz0, hz1, hz2⟩ := info_get Try.info46
  obtain ⟨v', w', h1, h2, h3, _⟩ := run_append_own (P := Try.prog) (W.alloc (.cells #[St x] 46)) B 24 24 46 i0 _ 1 16 Try.underlying24 hi hz0 hz1 hz2 rfl (by decide) v l.length (l.map St) (hown.alloc _) ⟨W.heap.size, 0, none⟩ 1 1 [St x] rfl (fun j u hu => cell_new_term W x j u hu) (fun u hu => by simp at hu; subst hu; rfl) (by unfold maxLen; omega) (by omega) (by simp; omega)
  have h4 : ∃ ao kc, v' = .slice ao (l.length + 1) kc := by
    rcases h2.2 with ⟨_, e⟩ | ⟨g, cap, _, e, _⟩
    · omega
    · exact ⟨_, _, e⟩
  obtain ⟨ao, kc, rfl⟩ := h4
  exact ⟨ao, kc, w', fun t => h1, by simpa using h2, h3⟩
/-- one more is told -/
theorem Wd.add_num {w0 K : World} {r : Nat} {b : Bs} {m : Msg} {w : World} (h : Wd w0 K r b m w) (x : Int) (hl : m.ns.length < 1000000) :
    ∃ ao cap a1 c1 w1, w.cell? ⟨r, 3, none⟩ = some (.slice ao m.ns.length cap) ∧ (∀ t, (Builtin.append_ #[23, 23] t #[.slice ao m.ns.length cap, .slice (some ⟨w.heap.size, 0, none⟩) 1 1]).run Try.prog (w.alloc (.cells #[.int .i64 x] 2)) = .ok (.slice a1 (m.ns.length + 1) c1) w1) ∧ w1.cell? ⟨r, 3, none⟩ = some (.slice ao m.ns.length cap) ∧ w1.frozen? ⟨r, 3, none⟩ = false ∧ Wd w0 K r b { m with ns := m.ns ++ [x] } (w1.setCell ⟨r, 3, none⟩ (.slice a1 (m.ns.length + 1) c1)) := by
  obtain ⟨lv, nv, tv, h1, h2, h3, h4⟩ := h.blk
  have hsz := h.bel.size
  have hlt := lt_of_block h1
  obtain ⟨a1, c1, w1, hrun, hown, hg⟩ := append_num w w0.heap.size nv m.ns x h3 (by omega) hsz
  have hr : w1.heap[r]? = some (.cells #[lv, .int .u16 (m.k : Int), St m.ch, nv, tv, St m.tx, .slice none 0 0] 54 (0, 0)) := by
    rw [hg.block r (by simp; omega) (fun e => own_apart h1 h3 (by decide) r e.symm rfl), Below.heap_alloc w _ r hlt]
    exact h1
  have hother : w1.ownsRow w0.heap.size 46 1 tv m.ts.length (m.ts.map St) := ownsRow_same h4 (fun g e => by
    have hgl := (h4.lt g e).2
    rw [hg.block g (by simp; omega) (ne_of_type h4 h3 (by decide) e)]
    exact Below.heap_alloc w _ g hgl)
  obtain ⟨ao, cap, hv⟩ : ∃ ao cap, nv = .slice ao m.ns.length cap := by
    rcases h3.2 with ⟨h5, h6⟩ | ⟨g, cap, _, h5, _⟩
    · rw [h6]; exact ⟨_, _, h5⟩
    · exact ⟨_, _, h5⟩
  subst hv
  refine ⟨ao, cap, a1, c1, w1, by rw [cell_of_heap h1]; rfl, hrun, by rw [cell_of_heap hr]; rfl, frozen_of_heap hr 3, h.lo, ⟨lv, .slice a1 (m.ns.length + 1) c1, tv, by rw [heap_setCell_same hr]; rfl, h2, ?_, ?_⟩, ?_, fun g cs hk => ?_⟩
  · exact ownsRow_same hown (fun g e => Below.heap_setCell _ _ _ _ (own_apart hr hown (by decide) g e))
  · exact ownsRow_same hother (fun g e => Below.heap_setCell _ _ _ _ (own_apart hr hother (by decide) g e))
  · have hb1 : Below w0.heap.size w w1 := ⟨hg.os, hg.tape, hg.output, by have := hg.size; simp at this; omega, fun k hk => by
      rw [hg.block k (by simp; omega) (fun e => by have := (h3.lt k e.symm).1; omega)]
      exact Below.heap_alloc w _ k (by omega)⟩
    have hb2 := h.bel.trans hb1
    exact ⟨hb2.os, hb2.tape, hb2.output, by simpa [World.setCell] using hb2.size, fun k hk => by rw [Below.heap_setCell _ _ _ _ (by show k ≠ r; have := h.lo; omega)]; exact hb2.block k hk⟩
  · have hk0 := h.kp g cs hk
    have hk1 : w1.heap[g]? = some (.cells cs 30 (0, 0)) := by
      rw [hg.block g (by have := lt_of_block hk0; simp; omega) (fn_own h3 hk0 (by decide)), Below.heap_alloc w _ g (lt_of_block hk0)]
      exact hk0
    exact (Below.heap_setCell _ _ _ _ (fn_apart hr hk1)).trans hk1
/-- one more is told -/
theorem Wd.add_term {w0 K : World} {r : Nat} {b : Bs} {m : Msg} {w : World} (h : Wd w0 K r b m w) (x : Bs) (hl : m.ts.length < 1000000) :
    ∃ ao cap a1 c1 w1, w.cell? ⟨r, 4, none⟩ = some (.slice ao m.ts.length cap) ∧ (∀ t, (Builtin.append_ #[24, 24] t #[.slice ao m.ts.length cap, .slice (some ⟨w.heap.size, 0, none⟩) 1 1]).run Try.prog (w.alloc (.cells #[St x] 46)) = .ok (.slice a1 (m.ts.length + 1) c1) w1) ∧ w1.cell? ⟨r, 4, none⟩ = some (.slice ao m.ts.length cap) ∧ w1.frozen? ⟨r, 4, none⟩ = false ∧ Wd w0 K r b { m with ts := m.ts ++ [x] } (w1.setCell ⟨r, 4, none⟩ (.slice a1 (m.ts.length + 1) c1)) := by
  obtain ⟨lv, nv, tv, h1, h2, h3, h4⟩ := h.blk
  have hsz := h.bel.size
  have hlt := lt_of_block h1
  obtain ⟨a1, c1, w1, hrun, hown, hg⟩ := append_term w w0.heap.size tv m.ts x h4 (by omega) hsz
  have hr : w1.heap[r]? = some (.cells #[lv, .int .u16 (m.k : Int), St m.ch, nv, tv, St m.tx, .slice none 0 0] 54 (0, 0)) := by
    rw [hg.block r (by simp; omega) (fun e => own_apart h1 h4 (by decide) r e.symm rfl), Below.heap_alloc w _ r hlt]
    exact h1
  have hother : w1.ownsRow w0.heap.size 2 1 nv m.ns.length (i64s m.ns) := ownsRow_same h3 (fun g e => by
    have hgl := (h3.lt g e).2
    rw [hg.block g (by simp; omega) (ne_of_type h3 h4 (by decide) e)]
    exact Below.heap_alloc w _ g hgl)
  obtain ⟨ao, cap, hv⟩ : ∃ ao cap, tv = .slice ao m.ts.length cap := by
    rcases h4.2 with ⟨h5, h6⟩ | ⟨g, cap, _, h5, _⟩
    · rw [h6]; exact ⟨_, _, h5⟩
    · exact ⟨_, _, h5⟩
  subst hv
  refine ⟨ao, cap, a1, c1, w1, by rw [cell_of_heap h1]; rfl, hrun, by rw [cell_of_heap hr]; rfl, frozen_of_heap hr 4, h.lo, ⟨lv, nv, .slice a1 (m.ts.length + 1) c1, by rw [heap_setCell_same hr]; rfl, h2, ?_, ?_⟩, ?_, fun g cs hk => ?_⟩
  · exact ownsRow_same hother (fun g e => Below.heap_setCell _ _ _ _ (own_apart hr hother (by decide) g e))
  · exact ownsRow_same hown (fun g e => Below.heap_setCell _ _ _ _ (own_apart hr hown (by decide) g e))
  · have hb1 : Below w0.heap.size w w1 := ⟨hg.os, hg.tape, hg.output, by have := hg.size; simp at this; omega, fun k hk => by
      rw [hg.block k (by simp; omega) (fun e => by have := (h4.lt k e.symm).1; omega)]
      exact Below.heap_alloc w _ k (by omega)⟩
    have hb2 := h.bel.trans hb1
    exact ⟨hb2.os, hb2.tape, hb2.output, by simpa [World.setCell] using hb2.size, fun k hk => by rw [Below.heap_setCell _ _ _ _ (by show k ≠ r; have := h.lo; omega)]; exact hb2.block k hk⟩
  · have hk0 := h.kp g cs hk
    have hk1 : w1.heap[g]? = some (.cells cs 30 (0, 0)) := by
      rw [hg.block g (by have := lt_of_block hk0; simp; omega) (fn_own h4 hk0 (by decide)), Below.heap_alloc w _ g (lt_of_block hk0)]
      exact hk0
    exact (Below.heap_setCell _ _ _ _ (fn_apart hr hk1)).trans hk1
set_option maxRecDepth 100000 in
set_option maxHeartbeats 2000000 in
theorem num_any (w0 K w : World) (r : Nat) (b : Bs) (m : Msg) (h : Wd w0 K r b m w) (hb : b.length ≤ 40000) (hl : m.ns.length < 1000000) :
    Calls Try.prog 48 #[.pointer (some ⟨r, 0, none⟩)] w (Part w0 K r rNum (fun m n => { m with ns := m.ns ++ [n] }) b m) := by
  by_cases h8 : 8 ≤ b.length
  · have HT := hid (wide_yes w0 K w r b m 8 h hb (by decide) h8)
    have HR : Hid (rNum b = some (s64 (numOf 0 (b.take 8)), b.drop 8)) := hid (by unfold rNum rWide rTake; rw [if_pos h8]; rfl)
    have hlt : numOf 0 (b.take 8) < 18446744073709551616 := by
      have := numOf_lt (b.take 8)
      rw [List.length_take, Nat.min_eq_left h8] at this
      exact this
    have HLT := hid hlt
    clear h hb h8
    generalize numOf 0 (b.take 8) = u at HT HR hlt HLT
    have hw : IntKind.i64.wrap (u : Int) = s64 u := by rw [IntKind.wrap_i64]; unfold s64; split <;> omega
    go_enter Try.func48, Try.ntmps48
    go_wp2_with fail
    refine HT.out.mono ?_
    rintro e w1 ⟨rfl, hwd⟩
    obtain ⟨ao, cap, a1, c1, w2, hc0, hrun, hc1, hf1, hwd2⟩ := hwd.add_num (s64 u) hl
    have HRUN := hid hrun
    have HWD := hid hwd2
    clear hwd hrun hwd2 HT hlt
    generalize s64 u = y at hw HRUN HWD HR
    generalize m.ns.length = q at hc0 HRUN hc1 HWD
    go_wp2_with (first | (at_builtin; refine wpList_append_run rfl (.tmp 15) (.tmp 18) 23 rfl (.slice ao q cap) (.slice (some ⟨w1.heap.size, 0, none⟩) 1 1) (.slice a1 (q + 1) c1) w2 rfl rfl HRUN.out ?_) | fail)
    go_ret
    exact Or.inl ⟨y, _, HR.out, rfl, HWD.out⟩
  · have HT := hid (wide_no w0 K w r b m 8 h hb h8)
    have HR : Hid (rNum b = none) := hid (by unfold rNum rWide rTake; rw [if_neg h8]; rfl)
    obtain ⟨ao, cap, a1, c1, w2, hc0, hrun, hc1, hf1, hwd2⟩ := h.add_num 0 hl
    have HRUN := hid hrun
    have HWD := hid hwd2
    clear h hb h8 hrun hwd2 hl
    generalize m.ns.length = q at hc0 HRUN hc1 HWD
    go_enter Try.func48, Try.ntmps48
    go_wp2_with fail
    refine HT.out.mono ?_
    rintro e w1 ⟨rfl, hw1⟩
    obtain rfl := hw1.symm
    go_wp2_with (first | (at_builtin; refine wpList_append_run rfl (.tmp 15) (.tmp 18) 23 rfl (.slice ao q cap) (.slice (some ⟨w.heap.size, 0, none⟩) 1 1) (.slice a1 (q + 1) c1) w2 rfl rfl HRUN.out ?_) | fail)
    go_ret
    exact Or.inr ⟨HR.out, rfl, _, _, HWD.out⟩
set_option maxRecDepth 100000 in
set_option maxHeartbeats 2000000 in
theorem term_any (w0 K w : World) (r : Nat) (b : Bs) (m : Msg) (h : Wd w0 K r b m w) (hb : b.length ≤ 40000) (hl : m.ts.length < 1000000) :
    Calls Try.prog 49 #[.pointer (some ⟨r, 0, none⟩)] w (Part w0 K r rText (fun m t => { m with ts := m.ts ++ [t] }) b m) := by
  have HT := hid (bytes_any w0 K w r b m h hb)
  clear h hb
  go_enter Try.func49, Try.ntmps49
  go_wp2_with fail
  refine HT.out.mono ?_
  rintro e w1 (⟨s, b', hr, rfl, hwd⟩ | ⟨hr, s, b', rfl, hwd⟩)
  all_goals
    have HR := hid hr
    obtain ⟨ao, cap, a1, c1, w2, hc0, hrun, hc1, hf1, hwd2⟩ := hwd.add_term s hl
    have HRUN := hid hrun
    have HWD := hid hwd2
    clear hwd hrun hwd2 HT hr
    generalize m.ts.length = q at hc0 HRUN hc1 HWD
    go_wp2_with (first | (at_builtin; refine wpList_append_run rfl (.tmp 15) (.tmp 17) 24 rfl (.slice ao q cap) (.slice (some ⟨w1.heap.size, 0, none⟩) 1 1) (.slice a1 (q + 1) c1) w2 rfl rfl HRUN.out ?_) | fail)
    go_ret
    first
      | exact Or.inl ⟨s, _, HR.out, rfl, HWD.out⟩
      | exact Or.inr ⟨HR.out, rfl, _, _, HWD.out⟩
theorem rMany_add {α : Type} (f : Bs → Option (α × Bs)) : ∀ (i : Nat) (b : Bs), rMany f (i + 1) b = (rMany f i b).bind fun x => (f x.2).map fun y => (x.1 ++ [y.1], y.2)
  | 0, b => by
    simp only [rMany, Option.bind_some]
    cases f b <;> rfl
  | i + 1, b => by
    rw [rMany, rMany]
    cases hq : f b with
    | none => rfl
    | some x =>
      simp only [Option.bind_some]
      rw [rMany_add f i x.2]
      cases rMany f i x.2 with
      | none => rfl
      | some y =>
        simp only [Option.bind_some, Option.map_some]
        cases f y.2 <;> rfl
theorem rMany_none {α : Type} {f : Bs → Option (α × Bs)} {i : Nat} {b : Bs} (h : rMany f i b = none) : ∀ n, i ≤ n → rMany f n b = none := by
  intro n hn
  induction n with
  | zero => rw [show i = 0 by omega] at h; exact h
  | succ n ih =>
    by_cases e : i = n + 1
    · rw [← e]; exact h
    · rw [rMany_add, ih (by omega)]
      rfl
theorem rMany_len {α : Type} {f : Bs → Option (α × Bs)} : ∀ {n : Nat} {b : Bs} {l : List α} {x : Bs}, rMany f n b = some (l, x) → l.length = n
  | 0, b, l, x, h => by rw [rMany] at h; cases h; rfl
  | n + 1, b, l, x, h => by
    rw [rMany] at h
    obtain ⟨a, _, h2⟩ := Option.bind_eq_some_iff.1 h
    obtain ⟨y, h3, h4⟩ := Option.map_eq_some_iff.1 h2
    cases h4
    simp [rMany_len h3]
set_option maxRecDepth 100000 in
set_option maxHeartbeats 4000000 in
/-- a list of parts is read -/
theorem list_any {α : Type} (w0 K w : World) (r g : Nat) (f : Bs → Option (α × Bs)) (add : Msg → List α → Msg) (b : Bs) (m : Msg) (h : Wd w0 K r b m w) (hb : b.length ≤ 40000)
    (eg : ∀ args w, (callFunc g args).run Try.prog w = .ok (.enter g args) w) (h0 : add m [] = m)
    (hp : ∀ W b' l, Wd w0 K r b' (add m l) W → b'.length ≤ 40000 → l.length < 33 → Calls Try.prog g #[.pointer (some ⟨r, 0, none⟩)] W (Part w0 K r f (fun _ a => add m (l ++ [a])) b' (add m l))) (hs : ∀ b a x, f b = some (a, x) → x.length ≤ b.length) :
    Calls Try.prog 47 #[.pointer (some ⟨r, 0, none⟩), .func (.func g) #[.pointer (some ⟨r, 0, none⟩)] #[]] w (Part w0 K r (rList f) add b m) := by
  have HC := hid (count_any w0 K w r b m h hb)
  have HB := hid hb
  have HP := hid hp
  have HS := hid hs
  have H0 := hid h0
  clear h hb hp hs h0
  go_enter Try.func47, Try.ntmps47
  go_wp2_with fail
  refine HC.out.mono ?_
  rintro e w1 (⟨n, b', hrc, rfl, hwd⟩ | ⟨hrc, u, rfl, hwd⟩)
  · have hlb : b'.length ≤ 40000 := by
      obtain ⟨e1, e2⟩ := rCount_ok hrc
      have := HB.out
      rw [e1, List.length_append] at this
      omega
    have HLB := hid hlb
    have HWD := hid hwd
    have HRL : Hid (rList f b = if 32 < n then none else rMany f n b') := hid (by unfold rList; rw [hrc]; rfl)
    clear hrc hwd HC hlb
    by_cases hn : 32 < n
    · have hn1 : (32 : Int) < (n : Int) := by omega
      have HN : Hid (rList f b = none) := hid (by rw [HRL.out, if_pos hn])
      clear hn
      go_wp2_with fail
      go_ret
      exact Or.inr ⟨HN.out, rfl, _, _, HWD.out⟩
    · have hn1 : ¬ (32 : Int) < (n : Int) := by omega
      have HN : Hid (rList f b = rMany f n b') := hid (by rw [HRL.out, if_neg hn])
      have hn32 : n ≤ 32 := by omega
      clear hn HRL
      go_wp2_with fail
      go_loopg [19] n (fun gg s19 wr => ∃ (i : Nat) (l : List α) (b2 : Bs), i ≤ n ∧ gg = n - i ∧ s19 = .int .u64 (i : Int) ∧ rMany f i b' = some (l, b2) ∧ b2.length ≤ 40000 ∧ Wd w0 K r b2 (add m l) wr)
      case atStart => exact ⟨0, [], b', by omega, by omega, rfl, rfl, HLB.out, by rw [H0.out]; exact HWD.out⟩
      case round =>
        clear HWD
        obtain ⟨i, l, b2, hi, rfl, rfl, hrm, hb2, hwd⟩ := hrel
        have HRM := hid hrm
        have HB2 := hid hb2
        have HWD := hid hwd
        clear hrm hb2 hwd
        by_cases hil : i < n
        · have hi1 : (i : Int) < (n : Int) := by omega
          have hll := rMany_len HRM.out
          have HPP := hid (HP.out wr b2 l HWD.out HB2.out (by omega))
          clear hll
          go_wp2_with fail
          refine HPP.out.mono ?_
          rintro e w2 (⟨a, b3, hf, rfl, hwd3⟩ | ⟨hf, rfl, b3, m3, hwd3⟩)
          · have HR3 : Hid (rMany f (i + 1) b' = some (l ++ [a], b3)) := hid (by rw [rMany_add, HRM.out]; simp [hf])
            have HB3 : Hid (b3.length ≤ 40000) := hid (Nat.le_trans (HS.out _ _ _ hf) HB2.out)
            have HW3 := hid hwd3
            clear hf hwd3 HPP
            go_wp2_with fail
            go_roundg (n - (i + 1))
            case measure => omega
            case rel => exact ⟨i + 1, l ++ [a], b3, by omega, rfl, by go_num, HR3.out, HB3.out, HW3.out⟩
          · have HR3 : Hid (rList f b = none) := hid (by
              rw [HN.out]
              exact rMany_none (i := i + 1) (by rw [rMany_add, HRM.out]; simp [hf]) n (by omega))
            have HW3 := hid hwd3
            clear hf hwd3 HPP
            go_wp2_with fail
            go_ret
            exact Or.inr ⟨HR3.out, rfl, _, _, HW3.out⟩
        · have hi1 : ¬ (i : Int) < (n : Int) := by omega
          have HR3 : Hid (rList f b = some (l, b2)) := hid (by rw [HN.out, show n = i by omega]; exact HRM.out)
          go_wp2_with fail
          go_ret
          exact Or.inl ⟨l, b2, HR3.out, rfl, HWD.out⟩
  · have HN : Hid (rList f b = none) := hid (by unfold rList; rw [hrc]; rfl)
    have HWD := hid hwd
    clear hrc hwd HC
    go_wp2_with fail
    go_ret
    exact Or.inr ⟨HN.out, rfl, _, _, HWD.out⟩
theorem eg48 : ∀ args w, (callFunc 48 args).run Try.prog w = .ok (.enter 48 args) w := Go.Proofs.enters_of Try.func48 (by kernel_rfl) rfl
theorem eg49 : ∀ args w, (callFunc 49 args).run Try.prog w = .ok (.enter 49 args) w := Go.Proofs.enters_of Try.func49 (by kernel_rfl) rfl
theorem rNum_short {b x : Bs} {a : Int} (h : rNum b = some (a, x)) : x.length ≤ b.length := by
  rw [(rNum_ok h).1, List.length_append]
  omega
theorem rText_short {b x a : Bs} (h : rText b = some (a, x)) : x.length ≤ b.length := by
  rw [rText_ok h, List.length_append]
  omega
set_option maxRecDepth 100000 in
set_option maxHeartbeats 2000000 in
theorem nums_any (w0 K w : World) (r : Nat) (b : Bs) (m : Msg) (h : Wd w0 K r b m w) (hb : b.length ≤ 40000) (hl : m.ns.length < 100000) :
    Calls Try.prog 33 #[.pointer (some ⟨r, 0, none⟩)] w (Part w0 K r (rList rNum) (fun m l => { m with ns := m.ns ++ l }) b m) := by
  have HL := hid (list_any w0 K w r 48 rNum (fun m l => { m with ns := m.ns ++ l }) b m h hb eg48 (by simp)
    (fun W b' l hw hb' hl' => by
      have h2 := num_any w0 K W r b' { m with ns := m.ns ++ l } hw hb' (by simp; omega)
      refine h2.mono ?_
      rintro e w' (⟨a, b2, e1, e2, e3⟩ | e1)
      · exact Or.inl ⟨a, b2, e1, e2, by simpa [List.append_assoc] using e3⟩
      · exact Or.inr e1) (fun b a x h => rNum_short h))
  have hmf : ∀ (fn : Fn) (first cap : Array Value) (w : World), (Instr.makeFunc fn first cap).run Try.prog w = .ok (.func fn first cap) w := fun _ _ _ _ => rfl
  clear h hb hl
  go_enter Try.func33, Try.ntmps33
  go_wp2_with fail
  refine HL.out.mono ?_
  rintro e w1 (⟨a, b', hr, rfl, hwd⟩ | ⟨hr, rfl, b', m', hwd⟩)
  all_goals
    have HR := hid hr
    have HWD := hid hwd
    clear hr hwd HL
    go_wp2_with fail
    go_ret
    first
      | exact Or.inl ⟨_, _, HR.out, rfl, HWD.out⟩
      | exact Or.inr ⟨HR.out, rfl, _, _, HWD.out⟩
set_option maxRecDepth 100000 in
set_option maxHeartbeats 2000000 in
theorem terms_any (w0 K w : World) (r : Nat) (b : Bs) (m : Msg) (h : Wd w0 K r b m w) (hb : b.length ≤ 40000) (hl : m.ts.length < 100000) :
    Calls Try.prog 34 #[.pointer (some ⟨r, 0, none⟩)] w (Part w0 K r (rList rText) (fun m l => { m with ts := m.ts ++ l }) b m) := by
  have HL := hid (list_any w0 K w r 49 rText (fun m l => { m with ts := m.ts ++ l }) b m h hb eg49 (by simp)
    (fun W b' l hw hb' hl' => by
      have h2 := term_any w0 K W r b' { m with ts := m.ts ++ l } hw hb' (by simp; omega)
      refine h2.mono ?_
      rintro e w' (⟨a, b2, e1, e2, e3⟩ | e1)
      · exact Or.inl ⟨a, b2, e1, e2, by simpa [List.append_assoc] using e3⟩
      · exact Or.inr e1) (fun b a x h => rText_short h))
  have hmf : ∀ (fn : Fn) (first cap : Array Value) (w : World), (Instr.makeFunc fn first cap).run Try.prog w = .ok (.func fn first cap) w := fun _ _ _ _ => rfl
  clear h hb hl
  go_enter Try.func34, Try.ntmps34
  go_wp2_with fail
  refine HL.out.mono ?_
  rintro e w1 (⟨a, b', hr, rfl, hwd⟩ | ⟨hr, rfl, b', m', hwd⟩)
  all_goals
    have HR := hid hr
    have HWD := hid hwd
    clear hr hwd HL
    go_wp2_with fail
    go_ret
    first
      | exact Or.inl ⟨_, _, HR.out, rfl, HWD.out⟩
      | exact Or.inr ⟨HR.out, rfl, _, _, HWD.out⟩
end Go.Proofs.Ytdhmmllpioppfaa.V
