/- The reader's parts. -/
import Derived.Test.YtdhmmllpioppfaaWRd
namespace Go.Proofs.Ytdhmmllpioppfaa.V
open Go.RowKit

set_option maxRecDepth 100000 in
set_option maxHeartbeats 2000000 in
theorem wide_no (w0 K w : World) (r : Nat) (b : Bs) (m : Msg) (n : Nat) (h : Wd w0 K r b m w) (hb : b.length ≤ 40000) (hl : ¬ n ≤ b.length) :
    Calls Try.prog 45 #[.pointer (some ⟨r, 0, none⟩), .int .u64 (n : Int)] w fun e w' => e = .returned (.tuple #[.int .u64 0, .bool false]) ∧ w' = w := by
  have HT := hid (take_no w0 K w r b m n h hb hl)
  clear h hb hl
  go_enter Try.func45, Try.ntmps45
  go_wp2_with fail
  refine HT.out.mono ?_
  rintro e w1 ⟨rfl, hw1⟩
  obtain rfl := hw1.symm
  go_wp2_with fail
  refine wp_loop_rounds 1 ?_
  rw [rounds_succ]
  go_wp2_with fail
  go_ret2
  exact ⟨rfl, rfl⟩
set_option maxRecDepth 100000 in
set_option maxHeartbeats 2000000 in
theorem wide_yes (w0 K w : World) (r : Nat) (b : Bs) (m : Msg) (n : Nat) (h : Wd w0 K r b m w) (hb : b.length ≤ 40000) (hn : n ≤ 8) (hl : n ≤ b.length) :
    Calls Try.prog 45 #[.pointer (some ⟨r, 0, none⟩), .int .u64 (n : Int)] w fun e w' => e = .returned (.tuple #[.int .u64 (numOf 0 (b.take n) : Int), .bool true]) ∧ Wd w0 K r (b.drop n) m w' := by
  have HT := hid (take_yes w0 K w r b m n h hb hl)
  have HLN : Hid ((b.take n).length = n) := hid (by rw [List.length_take]; omega)
  clear h hb hl
  generalize b.take n = x at HT HLN ⊢
  go_enter Try.func45, Try.ntmps45
  go_wp2_with fail
  refine HT.out.mono ?_
  rintro e w1 ⟨ao, cap, rfl, hsl, hwd⟩
  have HWD := hid hwd
  have HC : Hid (∀ i (h : i < x.length), ∃ g o, ao = some ⟨g, o, none⟩ ∧ w1.cell? ⟨g, o + i, none⟩ = some (.int .u8 (x[i].toNat : Int))) := hid (fun i hi => by
    obtain ⟨g, o, e, _, _, _, hc⟩ := (hsl.below hwd.bel).at (fun e => by subst e; simp at hi)
    exact ⟨g, o, e, hc i hi⟩)
  clear hsl hwd HT
  go_wp2_with fail
  go_loopg [8, 10, 19] n (fun gg v8 _v10 v19 wr => wr = w1 ∧ ∃ i : Nat, i ≤ n ∧ gg = n - i ∧ v19 = .int .i64 (i : Int) ∧ v8 = .int .u64 (numOf 0 (x.take i) : Int))
  case atStart => exact ⟨rfl, 0, by omega, by omega, rfl, rfl⟩
  case round =>
    obtain ⟨hwr, i, hi, rfl, rfl, rfl⟩ := hrel
    subst hwr
    by_cases hil : i < n
    · have hi1 : (i : Int) < (n : Int) := by omega
      have hir : i < x.length := by rw [HLN.out]; exact hil
      obtain ⟨g, o, hao, hci⟩ := HC.out i hir
      subst hao
      have hx := x[i].toNat_lt
      have HST : Hid (numOf 0 (x.take (i + 1)) = 256 * numOf 0 (x.take i) + x[i].toNat) := hid (by
        rw [List.take_succ_eq_append_getElem hir, numOf_app]; rfl)
      have ha : numOf 0 (x.take i) < 72057594037927936 := by
        have h1 := numOf_lt (x.take i)
        have h2 : 256 ^ (x.take i).length ≤ 256 ^ 7 := Nat.pow_le_pow_right (by decide) (by simp; omega)
        have h3 : (256 : Nat) ^ 7 = 72057594037927936 := by decide
        omega
      generalize numOf 0 (x.take i) = a at *
      generalize x[i].toNat = y at *
      have HOR := hid (or_byte a y ha hx)
      go_wp2_with fail
      go_roundg (n - (i + 1))
      case measure => omega
      case rel => exact ⟨rfl, i + 1, by omega, rfl, by go_num, by rw [HST.out, HOR.out]⟩
    · have hi1 : ¬ (i : Int) < (n : Int) := by omega
      have HE : Hid (x.take i = x) := hid (List.take_of_length_le (by rw [HLN.out]; omega))
      go_wp2_with fail
      go_ret2
      exact ⟨by rw [HE.out]; rfl, HWD.out⟩
set_option maxRecDepth 100000 in
set_option maxHeartbeats 2000000 in
theorem bytes_any (w0 K w : World) (r : Nat) (b : Bs) (m : Msg) (h : Wd w0 K r b m w) (hb : b.length ≤ 40000) :
    Calls Try.prog 46 #[.pointer (some ⟨r, 0, none⟩)] w fun e w' => (∃ s b', rText b = some (s, b') ∧ e = .returned (.tuple #[St s, .bool true]) ∧ Wd w0 K r b' m w') ∨ (rText b = none ∧ ∃ s b', e = .returned (.tuple #[St s, .bool false]) ∧ Wd w0 K r b' m w') := by
  have HC := hid (count_any w0 K w r b m h hb)
  have HB := hid hb
  clear h hb
  go_enter Try.func46, Try.ntmps46
  go_wp2_with fail
  refine HC.out.mono ?_
  rintro e w1 (⟨n, b', hrc, rfl, hwd⟩ | ⟨hrc, u, rfl, hwd⟩)
  · have hlb : b'.length ≤ 40000 ∧ n < 18446744073709551616 := by
      obtain ⟨e1, e2⟩ := rCount_ok hrc
      have := HB.out
      rw [e1, List.length_append] at this
      exact ⟨by omega, e2⟩
    by_cases hl : n ≤ b'.length
    · have HT := hid (take_yes w0 K w1 r b' m n hwd hlb.1 hl)
      have HRT : Hid (rText b = some (b'.take n, b'.drop n)) := hid (by unfold rText rTake; rw [hrc]; simp [hl])
      have HCL : Hid (∀ W, Calls Try.prog 60 #[St (b'.take n)] W fun e w' => e = .returned (St (b'.take n)) ∧ Below W.heap.size W w') := hid (fun W => Go.Proofs.Ytdhmmllpioppfaa.clone_any ⟨(b'.take n).toArray⟩ W (by
        show (b'.take n).toArray.size ≤ 40000
        rw [List.size_toArray, List.length_take]
        omega))
      clear hrc hwd hlb hl HC
      generalize b'.take n = x at HT HRT HCL
      go_wp2_with fail
      refine HT.out.mono ?_
      rintro e w2 ⟨ao, cap, rfl, hsl, hwd⟩
      have hcv := (hsl.below hwd.bel).string
      have HWD := hid hwd
      clear hsl hwd HT
      go_wp2_with fail
      refine (HCL.out _).mono ?_
      rintro e w3 ⟨rfl, hb3⟩
      have HW3 := hid (HWD.out.below hb3)
      clear hb3 hcv
      go_wp2_with fail
      go_ret2
      exact Or.inl ⟨_, _, HRT.out, rfl, HW3.out⟩
    · have HT := hid (take_no w0 K w1 r b' m n hwd hlb.1 hl)
      have HRT : Hid (rText b = none) := hid (by unfold rText rTake; rw [hrc]; simp [hl])
      have HWD := hid hwd
      have HCL : Hid (∀ W, Calls Try.prog 60 #[St []] W fun e w' => e = .returned (St []) ∧ Below W.heap.size W w') := hid (fun W => Go.Proofs.Ytdhmmllpioppfaa.clone_any ⟨#[]⟩ W (by decide))
      have hcv := fun W : World => nil_string' W
      clear hrc hwd hlb hl HC
      go_wp2_with fail
      refine HT.out.mono ?_
      rintro e w2 ⟨rfl, hw2⟩
      obtain rfl := hw2.symm
      go_wp2_with fail
      refine (HCL.out _).mono ?_
      rintro e w3 ⟨rfl, hb3⟩
      have HW3 := hid (HWD.out.below hb3)
      clear hb3
      go_wp2_with fail
      go_ret2
      exact Or.inr ⟨HRT.out, [], _, rfl, HW3.out⟩
  · have HRT : Hid (rText b = none) := hid (by unfold rText; rw [hrc]; rfl)
    have HWD := hid hwd
    clear hrc hwd HC
    go_wp2_with fail
    go_ret2
    exact Or.inr ⟨HRT.out, [], _, rfl, HWD.out⟩
/-- what was told changes -/
theorem Wd.tell {w0 K : World} {r : Nat} {b : Bs} {m m' : Msg} {w : World} {j : Nat} {v : Value} (h : Wd w0 K r b m w) (hn : m'.ns = m.ns) (ht : m'.ts = m.ts) (hj : ∀ lv nv tv, (#[lv, .int .u16 (m.k : Int), St m.ch, nv, tv, St m.tx, .slice none 0 0] : Array Value).setIfInBounds j v = #[lv, .int .u16 (m'.k : Int), St m'.ch, nv, tv, St m'.tx, .slice none 0 0]) : Wd w0 K r b m' (w.setCell ⟨r, j, none⟩ v) := by
  obtain ⟨lv, nv, tv, h1, h2, h3, h4⟩ := h.blk
  refine ⟨h.lo, ⟨lv, nv, tv, by rw [heap_setCell_same h1, hj], h2, by rw [hn]; exact ownsRow_same h3 (fun g e => Below.heap_setCell _ _ _ _ (own_apart h1 h3 (by decide) g e)), by rw [ht]; exact ownsRow_same h4 (fun g e => Below.heap_setCell _ _ _ _ (own_apart h1 h4 (by decide) g e))⟩, ?_, fun g cs hk => ?_⟩
  · exact ⟨h.bel.os, h.bel.tape, h.bel.output, by simpa [World.setCell] using h.bel.size, fun k hk => by rw [Below.heap_setCell _ _ _ _ (by show k ≠ r; have := h.lo; omega)]; exact h.bel.block k hk⟩
  · exact (Below.heap_setCell _ _ _ _ (fn_apart h1 (h.kp g cs hk))).trans (h.kp g cs hk)
theorem Wd.cells {w0 K : World} {r : Nat} {b : Bs} {m : Msg} {w : World} (h : Wd w0 K r b m w) : w.cell? ⟨r, 1, none⟩ = some (.int .u16 (m.k : Int)) ∧ w.cell? ⟨r, 2, none⟩ = some (St m.ch) ∧ w.cell? ⟨r, 5, none⟩ = some (St m.tx) ∧ ∀ o, w.frozen? ⟨r, o, none⟩ = false := by
  obtain ⟨lv, nv, tv, h1, _⟩ := h.blk
  exact ⟨by rw [cell_of_heap h1]; rfl, by rw [cell_of_heap h1]; rfl, by rw [cell_of_heap h1]; rfl, fun o => frozen_of_heap h1 o⟩
/-- what a part answers: it was read, and is told, or it can't be read -/
def Part {α : Type} (w0 K : World) (r : Nat) (f : Bs → Option (α × Bs)) (add : Msg → α → Msg) (b : Bs) (m : Msg) (e : Ending) (w' : World) : Prop :=
  (∃ a b', f b = some (a, b') ∧ e = .returned (.bool true) ∧ Wd w0 K r b' (add m a) w') ∨ (f b = none ∧ e = .returned (.bool false) ∧ ∃ b' m', Wd w0 K r b' m' w')
set_option maxRecDepth 100000 in
set_option maxHeartbeats 2000000 in
theorem kind_any (w0 K w : World) (r : Nat) (b : Bs) (m : Msg) (h : Wd w0 K r b m w) (hb : b.length ≤ 40000) :
    Calls Try.prog 31 #[.pointer (some ⟨r, 0, none⟩)] w (Part w0 K r (rWide 2) (fun m k => { m with k := k }) b m) := by
  by_cases hl : 2 ≤ b.length
  · have HT := hid (wide_yes w0 K w r b m 2 h hb (by decide) hl)
    have HR : Hid (rWide 2 b = some (numOf 0 (b.take 2), b.drop 2)) := hid (by unfold rWide rTake; rw [if_pos hl]; rfl)
    have hlt : numOf 0 (b.take 2) < 65536 := by
      have := numOf_lt (b.take 2)
      rw [List.length_take, Nat.min_eq_left hl] at this
      exact this
    clear h hb hl
    generalize numOf 0 (b.take 2) = u at HT HR hlt
    have hw : IntKind.u16.wrap (u : Int) = (u : Int) := by rw [IntKind.wrap_u16]; omega
    go_enter Try.func31, Try.ntmps31
    go_wp2_with fail
    refine HT.out.mono ?_
    rintro e w1 ⟨rfl, hwd⟩
    have HWD : Hid (Wd w0 K r (b.drop 2) { m with k := u } (w1.setCell ⟨r, 1, none⟩ (.int .u16 (u : Int)))) := hid (hwd.tell rfl rfl (fun _ _ _ => rfl))
    obtain ⟨c1, _, _, hf⟩ := hwd.cells
    have hf1 := hf 1
    clear hwd hf HT
    go_wp2_with fail
    go_ret
    exact Or.inl ⟨u, _, HR.out, rfl, HWD.out⟩
  · have HT := hid (wide_no w0 K w r b m 2 h hb hl)
    have HR : Hid (rWide 2 b = none) := hid (by unfold rWide rTake; rw [if_neg hl]; rfl)
    have HWD : Hid (Wd w0 K r b { m with k := 0 } (w.setCell ⟨r, 1, none⟩ (.int .u16 0))) := hid (h.tell rfl rfl (fun _ _ _ => rfl))
    obtain ⟨c1, _, _, hf⟩ := h.cells
    have hf1 := hf 1
    clear h hb hl hf
    go_enter Try.func31, Try.ntmps31
    go_wp2_with fail
    refine HT.out.mono ?_
    rintro e w1 ⟨rfl, hw1⟩
    obtain rfl := hw1.symm
    go_wp2_with fail
    go_ret
    exact Or.inr ⟨HR.out, rfl, _, _, HWD.out⟩
set_option maxRecDepth 100000 in
set_option maxHeartbeats 2000000 in
theorem channel_any (w0 K w : World) (r : Nat) (b : Bs) (m : Msg) (h : Wd w0 K r b m w) (hb : b.length ≤ 40000) :
    Calls Try.prog 32 #[.pointer (some ⟨r, 0, none⟩)] w (Part w0 K r rText (fun m s => { m with ch := s }) b m) := by
  have HT := hid (bytes_any w0 K w r b m h hb)
  clear h hb
  go_enter Try.func32, Try.ntmps32
  go_wp2_with fail
  refine HT.out.mono ?_
  rintro e w1 (⟨s, b', hr, rfl, hwd⟩ | ⟨hr, s, b', rfl, hwd⟩)
  all_goals
    have HR := hid hr
    have HWD : Hid (Wd w0 K r b' { m with ch := s } (w1.setCell ⟨r, 2, none⟩ (St s))) := hid (hwd.tell rfl rfl (fun _ _ _ => rfl))
    obtain ⟨_, c2, c5, hf⟩ := hwd.cells
    have hf1 := hf 2
    clear hwd hf hr HT
    go_wp2_with fail
    go_ret
    first
      | exact Or.inl ⟨s, _, HR.out, rfl, HWD.out⟩
      | exact Or.inr ⟨HR.out, rfl, _, _, HWD.out⟩
set_option maxRecDepth 100000 in
set_option maxHeartbeats 2000000 in
theorem text_any (w0 K w : World) (r : Nat) (b : Bs) (m : Msg) (h : Wd w0 K r b m w) (hb : b.length ≤ 40000) :
    Calls Try.prog 35 #[.pointer (some ⟨r, 0, none⟩)] w (Part w0 K r rText (fun m s => { m with tx := s }) b m) := by
  have HT := hid (bytes_any w0 K w r b m h hb)
  clear h hb
  go_enter Try.func35, Try.ntmps35
  go_wp2_with fail
  refine HT.out.mono ?_
  rintro e w1 (⟨s, b', hr, rfl, hwd⟩ | ⟨hr, s, b', rfl, hwd⟩)
  all_goals
    have HR := hid hr
    have HWD : Hid (Wd w0 K r b' { m with tx := s } (w1.setCell ⟨r, 5, none⟩ (St s))) := hid (hwd.tell rfl rfl (fun _ _ _ => rfl))
    obtain ⟨_, c2, c5, hf⟩ := hwd.cells
    have hf1 := hf 5
    clear hwd hf hr HT
    go_wp2_with fail
    go_ret
    first
      | exact Or.inl ⟨s, _, HR.out, rfl, HWD.out⟩
      | exact Or.inr ⟨HR.out, rfl, _, _, HWD.out⟩
end Go.Proofs.Ytdhmmllpioppfaa.V
