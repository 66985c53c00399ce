/- The reader goes over all parts. -/
import Derived.Test.YtdhmmllpioppfaaGreatWRdAll
namespace Go.Proofs.YtdhmmllpioppfaaGreat.V
open Go.RowKit

/-- all parts are told -/
structure Wf (w0 : World) (r : Nat) (m : Msg) (w : World) : Prop where
  blk : ∃ lv nv tv mv, w.heap[r]? = some (.cells #[lv, .int .u16 (m.k : Int), St m.ch, nv, tv, St m.tx, mv] 69 (0, 0)) ∧ w.ownsRow w0.heap.size 2 1 nv m.ns.length (i64s m.ns) ∧ w.ownsRow w0.heap.size 46 1 tv m.ts.length (m.ts.map St) ∧ Ro w0.heap.size w mv m.mo
  bel : Below w0.heap.size w0 w
theorem own_lower {w : World} {B C : Nat} {e : TypeId} {sz : Nat} {v : Value} {n : Nat} {xs : List Value} (h : w.ownsRow B e sz v n xs) (hb : C ≤ B) : w.ownsRow C e sz v n xs :=
  ⟨h.1, h.2.imp id (fun ⟨g, cap, cur, e1, e2, e3⟩ => ⟨g, cap, cur, e1, by omega, e3⟩)⟩
theorem Ro.lower {w : World} {B C : Nat} {v : Value} {L : List Rec} (h : Ro B w v L) (hb : C ≤ B) : Ro C w v L := by
  obtain ⟨bs, h1, h2, h3⟩ := h.row
  exact ⟨bs, h1, own_lower h2 hb, fun i hi hi' => own_lower (h3 i hi hi') hb⟩
theorem Ro.set {w : World} {B r j : Nat} {v u : Value} {L : List Rec} {cs : Array Value} (h : Ro B w v L) (hr : w.heap[r]? = some (.cells cs 69 (0, 0))) : Ro B (w.setCell ⟨r, j, none⟩ u) v L := by
  obtain ⟨bs, h1, h2, h3⟩ := h.row
  exact ⟨bs, h1, ownsRow_same h2 (fun g e => Below.heap_setCell _ _ _ _ (own_apart hr h2 (by decide) g e)), fun i hi hi' => ownsRow_same (h3 i hi hi') (fun g e => Below.heap_setCell _ _ _ _ (own_apart hr (h3 i hi hi') (by decide) g e))⟩
set_option maxRecDepth 100000 in
set_option maxHeartbeats 2000000 in
theorem more_any (w0 K w : World) (r : Nat) (b : Bs) (m : Msg) (h : Wd w0 K r b m w) (hb : b.length ≤ 40000) :
    Calls Tryz.prog 48 #[.pointer (some ⟨r, 0, none⟩)] w fun e w' => ((recsB b).2 = 0 ∧ e = .returned (.bool true) ∧ Wf w0 r { m with mo := (recsB b).1 } w') ∨ ((recsB b).2 ≠ 0 ∧ e = .returned (.bool false) ∧ Below w0.heap.size w0 w') := by
  obtain ⟨ao, cap, hc, hs, _⟩ := h.cell0
  have HR := hid (records_any w (.slice ao b.length cap) b (hs.below h.bel) (by omega))
  have HW := hid h
  generalize b.length = q at hc HR
  clear hs h hb
  generalize recsB b = s at HR
  obtain ⟨L, e⟩ := s
  by_cases he : e = 0
  · subst he
    go_enter Tryz.func48, Tryz.ntmps48
    go_wp2_with fail
    refine HR.out.mono ?_
    rintro e w1 ⟨a1, c1, rfl, hro, hb1⟩
    have hwd := HW.out.below hb1
    obtain ⟨lv, nv, tv, h1, h2, h3, h4⟩ := hwd.blk
    have HF : Hid (Wf w0 r { m with mo := L } (w1.setCell ⟨r, 6, none⟩ (.slice a1 L.length c1))) := hid ⟨⟨lv, nv, tv, _, by rw [heap_setCell_same h1]; rfl, ownsRow_same h3 (fun g e => Below.heap_setCell _ _ _ _ (own_apart h1 h3 (by decide) g e)), ownsRow_same h4 (fun g e => Below.heap_setCell _ _ _ _ (own_apart h1 h4 (by decide) g e)), (hro.lower HW.out.bel.size).set h1⟩,
      ⟨hwd.bel.os, hwd.bel.tape, hwd.bel.output, by simpa [World.setCell] using hwd.bel.size, fun k hk => by rw [Below.heap_setCell _ _ _ _ (by show k ≠ r; have := hwd.lo; omega)]; exact hwd.bel.block k hk⟩⟩
    have c6 : w1.cell? ⟨r, 6, none⟩ = some (.slice none 0 0) := by rw [cell_of_heap h1]; rfl
    have f6 := frozen_of_heap h1 6
    clear hro hb1 hwd h1 h2 h3 h4
    go_wp2_with fail
    go_ret
    exact Or.inl ⟨by first | rfl | trivial, rfl, HF.out⟩
  · have HE := hid he
    have he1 : ((e : Int) == 0) = false := by simpa using he
    have he2 : ¬ (e : Int) = 0 := by omega
    go_enter Tryz.func48, Tryz.ntmps48
    go_wp2_with fail
    refine HR.out.mono ?_
    rintro e w1 ⟨a1, c1, rfl, hro, hb1⟩
    have hwd := HW.out.below hb1
    obtain ⟨lv, nv, tv, h1, h2, h3, h4⟩ := hwd.blk
    have HF : Hid (Below w0.heap.size w0 (w1.setCell ⟨r, 6, none⟩ (.slice a1 L.length c1))) := hid
      ⟨hwd.bel.os, hwd.bel.tape, hwd.bel.output, by simpa [World.setCell] using hwd.bel.size, fun k hk => by rw [Below.heap_setCell _ _ _ _ (by show k ≠ r; have := hwd.lo; omega)]; exact hwd.bel.block k hk⟩
    have c6 : w1.cell? ⟨r, 6, none⟩ = some (.slice none 0 0) := by rw [cell_of_heap h1]; rfl
    have f6 := frozen_of_heap h1 6
    clear hro hb1 hwd h1 h2 h3 h4
    go_wp2_with fail
    go_ret
    exact Or.inr ⟨HE.out, rfl, HF.out⟩
/-- what is left to be read behind the first parts -/
def rest5 (b : Bs) (m : Msg) : Option Msg := if (recsB b).2 = 0 then some { m with mo := (recsB b).1 } else none
def rest4 (b : Bs) (m : Msg) : Option Msg := (rText b).bind fun x => rest5 x.2 { m with tx := x.1 }
def rest3 (b : Bs) (m : Msg) : Option Msg := (rList rText b).bind fun x => rest4 x.2 { m with ts := m.ts ++ x.1 }
def rest2 (b : Bs) (m : Msg) : Option Msg := (rList rNum b).bind fun x => rest3 x.2 { m with ns := m.ns ++ x.1 }
def rest1 (b : Bs) (m : Msg) : Option Msg := (rText b).bind fun x => rest2 x.2 { m with ch := x.1 }
def rest0 (b : Bs) (m : Msg) : Option Msg := (rWide 2 b).bind fun x => rest1 x.2 { m with k := x.1 }
theorem readM_rest (b : Bs) : readM b = rest0 b noM := rfl
def restOf : Nat → Bs → Msg → Option Msg
  | 0 => rest0
  | 1 => rest1
  | 2 => rest2
  | 3 => rest3
  | 4 => rest4
  | _ => rest5
theorem rWide_short {n k : Nat} {b x : Bs} (h : rWide n b = some (k, x)) : x.length ≤ b.length := by
  rw [(rWide_ok h).1, List.length_append]
  omega
theorem rList_short {α : Type} {f : Bs → Option (α × Bs)} (hf : ∀ b a x, f b = some (a, x) → x.length ≤ b.length) {b x : Bs} {l : List α} (h : rList f b = some (l, x)) : x.length ≤ b.length := by
  unfold rList at h
  obtain ⟨⟨n, y⟩, h1, h2⟩ := Option.bind_eq_some_iff.1 h
  simp only at h2
  split at h2
  · cases h2
  · have hy : y.length ≤ b.length := by rw [(rCount_ok h1).1, List.length_append]; omega
    refine Nat.le_trans ?_ hy
    have : ∀ (n : Nat) (y : Bs) (l : List α), rMany f n y = some (l, x) → x.length ≤ y.length := by
      intro n
      induction n with
      | zero => intro y l e; rw [rMany] at e; cases e; exact Nat.le_refl _
      | succ n ih =>
        intro y l e
        rw [rMany] at e
        obtain ⟨⟨a, z⟩, e1, e2⟩ := Option.bind_eq_some_iff.1 e
        obtain ⟨⟨l', z'⟩, e3, e4⟩ := Option.map_eq_some_iff.1 e2
        cases e4
        exact Nat.le_trans (ih z l' e3) (hf _ _ _ e1)
    exact this n y l h2
/-- the parts' row of functions -/
abbrev fns (r : Nat) : Array Value := #[.func (.func 43) #[.pointer (some ⟨r, 0, none⟩)] #[], .func (.func 44) #[.pointer (some ⟨r, 0, none⟩)] #[], .func (.func 45) #[.pointer (some ⟨r, 0, none⟩)] #[], .func (.func 46) #[.pointer (some ⟨r, 0, none⟩)] #[], .func (.func 47) #[.pointer (some ⟨r, 0, none⟩)] #[], .func (.func 48) #[.pointer (some ⟨r, 0, none⟩)] #[]]
/-- where the going over stands -/
def Ev (w0 K : World) (r : Nat) (b0 : Bs) (i : Nat) (w : World) : Prop :=
  (i ≤ 5 ∧ ∃ b m, readM b0 = restOf i b m ∧ Wd w0 K r b m w ∧ b.length ≤ 40000 ∧ (i ≤ 2 → m.ns = []) ∧ (i ≤ 3 → m.ts = [])) ∨ (i = 6 ∧ ∃ m, readM b0 = some m ∧ Wf w0 r m w)
theorem eg31 : ∀ args w, (callFunc 43 args).run Tryz.prog w = .ok (.enter 43 args) w := Go.Proofs.enters_of Tryz.func43 (by kernel_rfl) rfl
theorem eg32 : ∀ args w, (callFunc 44 args).run Tryz.prog w = .ok (.enter 44 args) w := Go.Proofs.enters_of Tryz.func44 (by kernel_rfl) rfl
theorem eg33 : ∀ args w, (callFunc 45 args).run Tryz.prog w = .ok (.enter 45 args) w := Go.Proofs.enters_of Tryz.func45 (by kernel_rfl) rfl
theorem eg34 : ∀ args w, (callFunc 46 args).run Tryz.prog w = .ok (.enter 46 args) w := Go.Proofs.enters_of Tryz.func46 (by kernel_rfl) rfl
theorem eg35 : ∀ args w, (callFunc 47 args).run Tryz.prog w = .ok (.enter 47 args) w := Go.Proofs.enters_of Tryz.func47 (by kernel_rfl) rfl
theorem eg36 : ∀ args w, (callFunc 48 args).run Tryz.prog w = .ok (.enter 48 args) w := Go.Proofs.enters_of Tryz.func48 (by kernel_rfl) rfl
set_option maxRecDepth 100000 in
set_option maxHeartbeats 8000000 in
theorem each_any (w0 K w : World) (r g : Nat) (b0 : Bs) (h : Wd w0 K r b0 noM w) (hb : b0.length ≤ 40000) (hK : K.heap[g]? = some (.cells (fns r) 29 (0, 0))) :
    Calls Tryz.prog 42 #[.pointer (some ⟨r, 0, none⟩), .slice (some ⟨g, 0, none⟩) 6 6] w fun e w' => (∃ m, readM b0 = some m ∧ e = .returned (.bool true) ∧ Wf w0 r m w') ∨ (readM b0 = none ∧ e = .returned (.bool false) ∧ Below w0.heap.size w0 w') := by
  have g31 := eg31
  have g32 := eg32
  have g33 := eg33
  have g34 := eg34
  have g35 := eg35
  have g36 := eg36
  have HE0 : Hid (Ev w0 K r b0 0 w) := hid (Or.inl ⟨by omega, b0, noM, readM_rest b0, h, hb, fun _ => rfl, fun _ => rfl⟩)
  have HK := hid hK
  clear h hb hK
  go_enter Tryz.func42, Tryz.ntmps42
  go_wp2_with fail
  go_loopg [6, 9] 6 (fun gg _s6 s9 wr => ∃ i : Nat, i ≤ 6 ∧ gg = 6 - i ∧ s9 = .int .i64 (i : Int) ∧ Ev w0 K r b0 i wr)
  case atStart => exact ⟨0, by omega, by omega, rfl, HE0.out⟩
  case round =>
    clear HE0
    obtain ⟨i, hi, rfl, rfl, hev⟩ := hrel
    rcases hev with ⟨hi5, b, m, hrm, hwd, hbl, hns, hts⟩ | ⟨rfl, m, hrm, hwf⟩
    · have hcx : ∀ j, wr.cell? ⟨g, j, none⟩ = (fns r)[j]? := fun j => cell_of_heap (hwd.kp g _ HK.out) j
      have HRM := hid hrm
      have HBL := hid hbl
      have HNS := hid hns
      have HTS := hid hts
      have HWD := hid hwd
      clear hrm hwd hbl hns hts hi
      match i, hi5 with
      | 0, _ =>
        have hc : wr.cell? ⟨g, 0, none⟩ = some (.func (.func 43) #[.pointer (some ⟨r, 0, none⟩)] #[]) := hcx 0
        clear hcx
        have HC := hid (kind_any w0 K wr r b m HWD.out HBL.out)
        go_wp2_with fail
        refine HC.out.mono ?_
        rintro e w1 (⟨a, b', hf, rfl, hwd⟩ | ⟨hf, rfl, b', m', hwd⟩)
        · have HR : Hid (readM b0 = restOf 1 b' _) := hid (by rw [HRM.out]; show rest0 b m = _; unfold rest0; rw [hf]; rfl)
          have HB : Hid (b'.length ≤ 40000) := hid (Nat.le_trans (rWide_short hf) HBL.out)
          have HW := hid hwd
          clear hf hwd HC hc
          go_wp2_with fail
          go_roundg 5
          case measure => omega
          case rel => exact ⟨1, by omega, by omega, rfl, Or.inl ⟨by omega, b', _, HR.out, HW.out, HB.out, fun _ => HNS.out (by omega), fun _ => HTS.out (by omega)⟩⟩
        · have HR : Hid (readM b0 = none) := hid (by rw [HRM.out]; show rest0 b m = _; unfold rest0; rw [hf]; rfl)
          have HW := hid hwd
          clear hf hwd HC hc
          go_wp2_with fail
          go_ret
          exact Or.inr ⟨HR.out, rfl, HW.out.bel⟩
      | 1, _ =>
        have hc : wr.cell? ⟨g, 1, none⟩ = some (.func (.func 44) #[.pointer (some ⟨r, 0, none⟩)] #[]) := hcx 1
        clear hcx
        have HC := hid (channel_any w0 K wr r b m HWD.out HBL.out)
        go_wp2_with fail
        refine HC.out.mono ?_
        rintro e w1 (⟨a, b', hf, rfl, hwd⟩ | ⟨hf, rfl, b', m', hwd⟩)
        · have HR : Hid (readM b0 = restOf 2 b' _) := hid (by rw [HRM.out]; show rest1 b m = _; unfold rest1; rw [hf]; rfl)
          have HB : Hid (b'.length ≤ 40000) := hid (Nat.le_trans (rText_short hf) HBL.out)
          have HW := hid hwd
          clear hf hwd HC hc
          go_wp2_with fail
          go_roundg 4
          case measure => omega
          case rel => exact ⟨2, by omega, by omega, rfl, Or.inl ⟨by omega, b', _, HR.out, HW.out, HB.out, fun _ => HNS.out (by omega), fun _ => HTS.out (by omega)⟩⟩
        · have HR : Hid (readM b0 = none) := hid (by rw [HRM.out]; show rest1 b m = _; unfold rest1; rw [hf]; rfl)
          have HW := hid hwd
          clear hf hwd HC hc
          go_wp2_with fail
          go_ret
          exact Or.inr ⟨HR.out, rfl, HW.out.bel⟩
      | 2, _ =>
        have hc : wr.cell? ⟨g, 2, none⟩ = some (.func (.func 45) #[.pointer (some ⟨r, 0, none⟩)] #[]) := hcx 2
        clear hcx
        have HC := hid (nums_any w0 K wr r b m HWD.out HBL.out (by rw [HNS.out (by omega)]; decide))
        go_wp2_with fail
        refine HC.out.mono ?_
        rintro e w1 (⟨a, b', hf, rfl, hwd⟩ | ⟨hf, rfl, b', m', hwd⟩)
        · have HR : Hid (readM b0 = restOf 3 b' _) := hid (by rw [HRM.out]; show rest2 b m = _; unfold rest2; rw [hf]; rfl)
          have HB : Hid (b'.length ≤ 40000) := hid (Nat.le_trans (rList_short (fun _ _ _ h => rNum_short h) hf) HBL.out)
          have HW := hid hwd
          clear hf hwd HC hc
          go_wp2_with fail
          go_roundg 3
          case measure => omega
          case rel => exact ⟨3, by omega, by omega, rfl, Or.inl ⟨by omega, b', _, HR.out, HW.out, HB.out, fun h => by omega, fun _ => HTS.out (by omega)⟩⟩
        · have HR : Hid (readM b0 = none) := hid (by rw [HRM.out]; show rest2 b m = _; unfold rest2; rw [hf]; rfl)
          have HW := hid hwd
          clear hf hwd HC hc
          go_wp2_with fail
          go_ret
          exact Or.inr ⟨HR.out, rfl, HW.out.bel⟩
      | 3, _ =>
        have hc : wr.cell? ⟨g, 3, none⟩ = some (.func (.func 46) #[.pointer (some ⟨r, 0, none⟩)] #[]) := hcx 3
        clear hcx
        have HC := hid (terms_any w0 K wr r b m HWD.out HBL.out (by rw [HTS.out (by omega)]; decide))
        go_wp2_with fail
        refine HC.out.mono ?_
        rintro e w1 (⟨a, b', hf, rfl, hwd⟩ | ⟨hf, rfl, b', m', hwd⟩)
        · have HR : Hid (readM b0 = restOf 4 b' _) := hid (by rw [HRM.out]; show rest3 b m = _; unfold rest3; rw [hf]; rfl)
          have HB : Hid (b'.length ≤ 40000) := hid (Nat.le_trans (rList_short (fun _ _ _ h => rText_short h) hf) HBL.out)
          have HW := hid hwd
          clear hf hwd HC hc
          go_wp2_with fail
          go_roundg 2
          case measure => omega
          case rel => exact ⟨4, by omega, by omega, rfl, Or.inl ⟨by omega, b', _, HR.out, HW.out, HB.out, fun h => by omega, fun h => by omega⟩⟩
        · have HR : Hid (readM b0 = none) := hid (by rw [HRM.out]; show rest3 b m = _; unfold rest3; rw [hf]; rfl)
          have HW := hid hwd
          clear hf hwd HC hc
          go_wp2_with fail
          go_ret
          exact Or.inr ⟨HR.out, rfl, HW.out.bel⟩
      | 4, _ =>
        have hc : wr.cell? ⟨g, 4, none⟩ = some (.func (.func 47) #[.pointer (some ⟨r, 0, none⟩)] #[]) := hcx 4
        clear hcx
        have HC := hid (text_any w0 K wr r b m HWD.out HBL.out)
        go_wp2_with fail
        refine HC.out.mono ?_
        rintro e w1 (⟨a, b', hf, rfl, hwd⟩ | ⟨hf, rfl, b', m', hwd⟩)
        · have HR : Hid (readM b0 = restOf 5 b' _) := hid (by rw [HRM.out]; show rest4 b m = _; unfold rest4; rw [hf]; rfl)
          have HB : Hid (b'.length ≤ 40000) := hid (Nat.le_trans (rText_short hf) HBL.out)
          have HW := hid hwd
          clear hf hwd HC hc
          go_wp2_with fail
          go_roundg 1
          case measure => omega
          case rel => exact ⟨5, by omega, by omega, rfl, Or.inl ⟨by omega, b', _, HR.out, HW.out, HB.out, fun h => by omega, fun h => by omega⟩⟩
        · have HR : Hid (readM b0 = none) := hid (by rw [HRM.out]; show rest4 b m = _; unfold rest4; rw [hf]; rfl)
          have HW := hid hwd
          clear hf hwd HC hc
          go_wp2_with fail
          go_ret
          exact Or.inr ⟨HR.out, rfl, HW.out.bel⟩
      | 5, _ =>
        have hc : wr.cell? ⟨g, 5, none⟩ = some (.func (.func 48) #[.pointer (some ⟨r, 0, none⟩)] #[]) := hcx 5
        clear hcx
        have HC := hid (more_any w0 K wr r b m HWD.out HBL.out)
        go_wp2_with fail
        refine HC.out.mono ?_
        rintro e w1 (⟨he, rfl, hwf⟩ | ⟨he, rfl, hbe⟩)
        · have HR : Hid (readM b0 = some _) := hid (by rw [HRM.out]; show rest5 b m = _; unfold rest5; rw [if_pos he])
          have HW := hid hwf
          clear he hwf HC hc
          go_wp2_with fail
          go_roundg 0
          case measure => omega
          case rel => exact ⟨6, by omega, by omega, rfl, Or.inr ⟨rfl, _, HR.out, HW.out⟩⟩
        · have HR : Hid (readM b0 = none) := hid (by rw [HRM.out]; show rest5 b m = _; unfold rest5; rw [if_neg he])
          have HW := hid hbe
          clear he hbe HC hc
          go_wp2_with fail
          go_ret
          exact Or.inr ⟨HR.out, rfl, HW.out⟩
    · have HR := hid hrm
      have HW := hid hwf
      clear hrm hwf
      go_wp2_with fail
      go_ret
      exact Or.inl ⟨m, HR.out, rfl, HW.out⟩
set_option maxRecDepth 100000 in
set_option maxHeartbeats 4000000 in
theorem message_any (w0 w : World) (r : Nat) (b0 : Bs) (h : Wd w0 w r b0 noM w) (hb : b0.length ≤ 40000) :
    Calls Tryz.prog 26 #[.pointer (some ⟨r, 0, none⟩)] w fun e w' => (∃ m, readM b0 = some m ∧ e = .returned (.bool true) ∧ Wf w0 r m w') ∨ (readM b0 = none ∧ e = .returned (.bool false) ∧ Below w0.heap.size w0 w') := by
  have hba := (Below.refl w.heap.size w).alloc (Nat.le_refl _) (.cells (fns r) 29)
  have h1 := h.below hba
  have HE := hid (each_any w0 (w.alloc (.cells (fns r) 29)) (w.alloc (.cells (fns r) 29)) r w.heap.size b0 ⟨h1.lo, h1.blk, h1.bel, fun _ _ h => h⟩ hb (heap_alloc_new w _))
  have hmf : ∀ (fn : Fn) (first cap : Array Value) (w : World), (Instr.makeFunc fn first cap).run Tryz.prog w = .ok (.func fn first cap) w := fun _ _ _ _ => rfl
  clear h hb hba h1
  go_enter Tryz.func26, Tryz.ntmps26
  go_wp2_with fail
  refine HE.out.mono ?_
  rintro e w1 (⟨m, hr, rfl, hwf⟩ | ⟨hr, rfl, hbe⟩)
  · have HR := hid hr
    have HW := hid hwf
    clear hr hwf HE
    go_wp2_with fail
    go_ret
    exact Or.inl ⟨m, HR.out, rfl, HW.out⟩
  · have HR := hid hr
    have HW := hid hbe
    clear hr hbe HE
    go_wp2_with fail
    go_ret
    exact Or.inr ⟨HR.out, rfl, HW.out⟩
end Go.Proofs.YtdhmmllpioppfaaGreat.V
