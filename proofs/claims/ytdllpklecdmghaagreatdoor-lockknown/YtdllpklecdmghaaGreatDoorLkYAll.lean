import Derived.Test.YtdllpklecdmghaaGreatDoorLkVAll
import Derived.Deep.LoopGhost
import Derived.Laws.ResultCell
import Derived.Deep.WholeRow
/- What the reading of a lock does: a lock of parts. -/
namespace Go.Proofs.YtdllpklecdmghaaGreatDoor
open Go.RowKit
open Lk (Lt readP readK)
def ky0 : Oper := { dst := some 32, op := Op.fieldAddr 25 (Operand.tmp 4) 3, type := 0, pos := "text.go:56", after := #[], guard := none }
def ky1 : Oper := { dst := some 33, op := Op.load 23 (Operand.tmp 32), type := 23, pos := "text.go:56", after := #[{ on := 0, ground := Ground.data }], guard := none }
def ky2 : Oper := { dst := some 34, op := Op.load 57 (Operand.tmp 2), type := 57, pos := "text.go:56", after := #[], guard := none }
def ky3 : Oper := { dst := some 35, op := Op.call { callee := Callee.value (Operand.tmp 34), args := #[], argTypes := #[] }, type := 25, pos := "text.go:56", after := #[{ on := 2, ground := Ground.data }], guard := none }
def ky4 : Oper := { dst := some 36, op := Op.buildSlice 23 1 #[(0, Operand.tmp 35)], type := 23, pos := "text.go:56", after := #[{ on := 3, ground := Ground.data }], guard := none }
def ky5 : Oper := { dst := some 37, op := Op.call { callee := Callee.builtin Builtin.append, args := #[Operand.tmp 33, Operand.tmp 36], argTypes := #[23, 23] }, type := 23, pos := "text.go:56", after := #[{ on := 1, ground := Ground.data }, { on := 4, ground := Ground.data }, { on := 3, ground := Ground.chain }], guard := none }
def ky6 : Oper := { dst := some 38, op := Op.fieldAddr 25 (Operand.tmp 4) 3, type := 0, pos := "text.go:56", after := #[{ on := 0, ground := Ground.phase }, { on := 1, ground := Ground.phase }, { on := 2, ground := Ground.phase }, { on := 3, ground := Ground.phase }, { on := 4, ground := Ground.phase }, { on := 5, ground := Ground.phase }], guard := none }
def ky7 : Oper := { dst := none, op := Op.store 23 (Operand.tmp 38) (Operand.tmp 37), type := 0, pos := "text.go:56", after := #[{ on := 6, ground := Ground.data }, { on := 5, ground := Ground.data }, { on := 5, ground := Ground.chain }, { on := 0, ground := Ground.phase }, { on := 1, ground := Ground.phase }, { on := 2, ground := Ground.phase }, { on := 3, ground := Ground.phase }, { on := 4, ground := Ground.phase }, { on := 5, ground := Ground.phase }], guard := none }
theorem lkload23 {w : World} {b o : Nat} {v : Value} (h : w.cell? ⟨b, o, none⟩ = some v) : (Instr.loadAt 23 (.pointer (some ⟨b, o, none⟩))).run Tryz.prog w = .ok v w := by go_simp
theorem lkload52 {w : World} {b o : Nat} {v : Value} (h : w.cell? ⟨b, o, none⟩ = some v) : (Instr.loadAt 57 (.pointer (some ⟨b, o, none⟩))).run Tryz.prog w = .ok v w := by go_simp
set_option maxRecDepth 100000 in
set_option maxHeartbeats 8000000 in
theorem read_kids {pb tb rb p g : Nat} {s : Bs} {w : World} (h : Rs pb tb rb p s w) (hp : p < 64) (hs : s.length ≤ 140737488355328) (k : Nat) (hk : k = Sc.kindOf (s.headD 0)) (h56 : k = 5 ∨ k = 6)
    (IH : ∀ (q : Nat) (z : Bs) (W : World), p + 1 ≤ q → q ≤ 1000 → z.length ≤ 140737488355328 → Rs pb tb rb q z W → Calls Tryz.prog 40 #[.pointer (some ⟨pb, 0, none⟩), .pointer (some ⟨tb, 0, none⟩), .pointer (some ⟨rb, 0, none⟩)] W (RdE pb tb rb g W (readP g q z)))
    (R : Lt × Bs × Nat) (hR : R = kidR g k p (s.drop 1)) : Calls Tryz.prog 40 #[.pointer (some ⟨pb, 0, none⟩), .pointer (some ⟨tb, 0, none⟩), .pointer (some ⟨rb, 0, none⟩)] w (RdE pb tb rb (g + 1) w R) := by
  have eg := eg30
  have hpl := lt_of_heap h.pc
  have c0 : w.cell? ⟨pb, 0, none⟩ = some (.int .i64 (p : Int)) := (cell_of_heap h.pc 0).trans rfl
  have f0 : w.frozen? ⟨pb, 0, none⟩ = false := frozen_of_heap h.pc 0
  obtain ⟨a1, a2⟩ := pA (p := p) (by omega)
  have hgt : ¬ (64 : Int) < ((p + 1 : Nat) : Int) := by omega
  have hne : ¬ pb = w.heap.size := by omega
  have HLT : Hid (Calls Tryz.prog 42 #[.pointer (some ⟨tb, 0, none⟩)] (rw1 w pb p) fun e w' => e = .returned (.int .u8 ((s.headD 0).toNat : Int)) ∧ Fr (rw1 w pb p) tb (s.drop 1) w') := hid (letter_fr (Fr.refl (rw1_rs h).1.tc))
  have HKD : Hid (∀ W, Calls Tryz.prog 41 #[.int .u8 ((s.headD 0).toNat : Int)] W fun e w' => e = .returned (.int .u8 (k : Int)) ∧ w' = W) := hid (fun W => by rw [hk]; exact kind_any _ W)
  have HRS := hid h
  have HSL : Hid ((s.drop 1).length ≤ 140737488355328) := hid (by rw [List.length_drop]; omega)
  have HRR := hid hR
  have HIH := hid IH
  have HP := hid hp
  clear hR IH
  clear h hp hs hk
  generalize s.drop 1 = s1 at *
  generalize s.headD 0 = c at *
  go_enter Tryz.func40, Tryz.ntmps40
  go_wp2_with fail
  refine HLT.out.mono ?_
  rintro e w2 ⟨rfl, hf2⟩
  have HF2 := hid hf2
  clear hf2 HLT c0 f0
  go_wp2_with fail
  refine (HKD.out _).mono ?_
  rintro e w3 ⟨rfl, rfl⟩
  have HWB := hid (wb_of HRS.out HF2.out k)
  obtain ⟨lb, hlb⟩ : ∃ lb, lb = w3.heap.size := ⟨_, rfl⟩
  obtain ⟨W, hW⟩ : ∃ W, W = w3.alloc (.cells #[.int .u8 (k : Int), .string ⟨#[]⟩, .int .i64 0, .slice none 0 0] 25) := ⟨_, rfl⟩
  rw [← hlb, ← hW] at HWB
  have HNM : Hid (Calls Tryz.prog 45 #[.pointer (some ⟨tb, 0, none⟩), .int .u8 58, .int .i64 8] W fun en w' => match Sc.nm 58 8 s1 with
      | none => en = .returned (.int .i64 (-1)) ∧ Fr W tb s1 w'
      | some (n, x) => en = .returned (.int .i64 (n : Int)) ∧ Fr W tb x w') := hid (number_fr (Fr.refl HWB.out.rs.tc) 58 (by decide) 8 (by decide) HSL.out)
  have hk1 : (k : Int) = 5 ∨ (k : Int) = 6 := by omega
  clear h56
  have HN2 : Hid (Calls Tryz.prog 45 #[.pointer (some ⟨tb, 0, none⟩), .int .u8 58, .int .i64 8] W fun en w' => ∃ (z : Int) (x : Bs) (n : Nat), en = .returned (.int .i64 z) ∧ Fr W tb x w' ∧ n ≤ 8 ∧ (∀ i : Nat, (i : Int) < z ↔ i < n) ∧ x.length ≤ 140737488355328 ∧ R = (.mk k [] 0 (readK (readP g) n (p + 1) x).1, (readK (readP g) n (p + 1) x).2.1, (readK (readP g) n (p + 1) x).2.2)) := hid (HNM.out.mono (fun en w' hn => by
    have hR2 : R = kidR g k p s1 := HRR.out
    unfold kidR at hR2
    cases hr : Sc.nm 58 8 s1 with
    | none =>
      rw [hr] at hn hR2
      exact ⟨-1, s1, 0, hn.1, hn.2, by omega, fun i => by omega, HSL.out, hR2⟩
    | some q =>
      obtain ⟨n, x⟩ := q
      have h1 := Sc.nmGo_len hr
      have h2 := (Sc.nm_inv hr).2
      have h3 := HSL.out
      rw [hr] at hn hR2
      exact ⟨(n : Int), x, n, hn.1, hn.2, h2, fun i => by omega, by omega, hR2⟩))
  clear HNM HRR HKD HF2 HRS a1 a2 hgt hne hpl HSL
  rcases hk1 with hk1 | hk1
  all_goals
    rw [hk1] at hW
    go_wp2_with fail
    rw [← hlb, ← hW]
    clear hlb hW
    refine HN2.out.mono ?_
    rintro e w4 ⟨z, x, n, rfl, hf4, hn8, hzn, hx, hR⟩
    have HR := hid hR
    have HN8 := hid hn8
    have HZN := hid hzn
    have HX := hid hx
    have HW5 := hid ((HWB.out.fg (fg_fr hf4)).kids g)
    clear hf4 HN2 HWB hR hn8 hzn hx
    go_wp2_with fail
    go_loopg [30] 9 (fun gg v30 wx => ∃ (i : Nat) (ao : Option Addr) (cap : Nat) (wy : World), wy = wx ∧ gg = 9 - i ∧ i ≤ n ∧ v30 = .int .i64 (i : Int) ∧ Wk pb tb rb lb (readK (readP g) i (p + 1) x).2.2 (readK (readP g) i (p + 1) x).2.1 k g (readK (readP g) i (p + 1) x).1 (.slice ao i cap) w wy)
    case atStart => exact ⟨0, none, 0, _, rfl, rfl, Nat.zero_le _, rfl, HW5.out⟩
    case round =>
      obtain ⟨i, ao, cap, wy, hwy, rfl, hin, rfl, hwk⟩ := hrel
      subst hwy
      clear HW5
      by_cases hlt : i < n
      · have hz : (i : Int) < z := (HZN.out i).2 hlt
        obtain ⟨_, ⟨_, _, _, r3, rf⟩, rr⟩ := hwk.cells
        obtain ⟨q, hq⟩ : ∃ q, q = (readK (readP g) i (p + 1) x).2.2 := ⟨_, rfl⟩
        obtain ⟨y, hy⟩ : ∃ y, y = (readK (readP g) i (p + 1) x).2.1 := ⟨_, rfl⟩
        obtain ⟨ks, hks⟩ : ∃ ks, ks = (readK (readP g) i (p + 1) x).1 := ⟨_, rfl⟩
        have hki : ks.length = i := by rw [hks]; exact Lk.readK_len _ _ _ _
        have HON := hid (readK_on (Lk.readP_few g) i (p + 1) x)
        have HSH := hid (readK_short (fun p s => (readP_lr g p s).1) i (p + 1) x)
        rw [← hq] at HON
        rw [← hy] at HSH
        rw [← hq, ← hy, ← hks] at hwk
        have hyl : y.length ≤ 140737488355328 := Nat.le_trans HSH.out HX.out
        have hq1 : p + 1 ≤ q := HON.out.1
        have hq2 : q ≤ 1000 := by have := HON.out.2; have := HN8.out; omega
        have HCA : Hid (∀ Wx, Below wy.heap.size wy Wx → Calls Tryz.prog 40 #[.pointer (some ⟨pb, 0, none⟩), .pointer (some ⟨tb, 0, none⟩), .pointer (some ⟨rb, 0, none⟩)] Wx fun e w' => ∃ (ka : Option Addr) (kc : Nat) (b : Option Addr) (cp : Nat) (w6 : World), e = .returned (.agg #[.int .u8 ((readP g q y).1.kind : Int), St (readP g q y).1.term, .int .i64 (readP g q y).1.n, .slice ka (readP g q y).1.kids.length kc]) ∧
            (w'.cell? ⟨lb, 3, none⟩ = some (.slice ao i cap) ∧ w'.cell? ⟨rb, 0, none⟩ = some (rfn pb tb rb)) ∧ (∀ o, (w'.alloc o).cell? ⟨lb, 3, none⟩ = some (.slice ao i cap) ∧ (w'.alloc o).cell? ⟨rb, 0, none⟩ = some (rfn pb tb rb)) ∧
            (∀ ty, (Builtin.append_ #[23, 23] ty #[.slice ao i cap, .slice (some ⟨w'.heap.size, 0, none⟩) 1 1]).run Tryz.prog (w'.alloc (.cells #[.int .u8 ((readP g q y).1.kind : Int), St (readP g q y).1.term, .int .i64 (readP g q y).1.n, .slice ka (readP g q y).1.kids.length kc] 25)) = .ok (.slice b (i + 1) cp) w6) ∧ (w6.cell? ⟨lb, 3, none⟩ = some (.slice ao i cap) ∧ w6.cell? ⟨rb, 0, none⟩ = some (rfn pb tb rb)) ∧ w6.frozen? ⟨lb, 3, none⟩ = false ∧
            Wk pb tb rb lb (readP g q y).2.2 (readP g q y).2.1 k g (ks ++ [(readP g q y).1]) (.slice b (i + 1) cp) w (w6.setCell ⟨lb, 3, none⟩ (.slice b (i + 1) cp))) := hid (fun Wx hB => by
          have hw1 := hwk.low hB
          refine (HIH.out q y Wx hq1 hq2 hyl hw1.rs).mono ?_
          intro e w' hr
          obtain ⟨hw2, kv, he, hkd⟩ := hw1.read hr
          obtain ⟨_, ka, kc, hkv⟩ := hkd.shape
          have h7 := hw2.append (readP g q y).1 kv (by rw [hkv]; rfl) ((readP_lr g q y).2 hyl) hkd (by rw [hki]; have := HN8.out; omega)
          rw [hki] at h7
          obtain ⟨b, cp, w6, h8, h9, h10, h11⟩ := h7
          have e2 : lcs (readP g q y).1 kv = #[.int .u8 ((readP g q y).1.kind : Int), St (readP g q y).1.term, .int .i64 (readP g q y).1.n, .slice ka (readP g q y).1.kids.length kc] := by rw [hkv]; rfl
          rw [e2] at he h8
          have hal : ∀ o, (w'.alloc o).cell? ⟨lb, 3, none⟩ = some (.slice ao i cap) ∧ (w'.alloc o).cell? ⟨rb, 0, none⟩ = some (rfn pb tb rb) := fun o => ⟨(hw2.low (below_al w' o)).cells.2.1.2.2.2.1, (hw2.low (below_al w' o)).cells.2.2⟩
          have hrb : w6.cell? ⟨rb, 0, none⟩ = some (rfn pb tb rb) := by
            have h12 := h11.cells.2.2
            have ho := h11.old
            rw [← h12]
            exact (World.cell?_of_block (Below.heap_setCell _ _ _ _ (by show rb ≠ lb; omega))).symm
          exact ⟨ka, kc, b, cp, w6, he, ⟨hw2.cells.2.1.2.2.2.1, hw2.cells.2.2⟩, hal, h8, ⟨h9, hrb⟩, h10, h11⟩)
        have HBX : Hid (∀ Wx, Below wy.heap.size wy Wx → Wx.cell? ⟨lb, 3, none⟩ = some (.slice ao i cap) ∧ Wx.cell? ⟨rb, 0, none⟩ = some (rfn pb tb rb)) := hid (fun Wx hB => ⟨(hwk.low hB).cells.2.1.2.2.2.1, (hwk.low hB).cells.2.2⟩)
        have HNX : Hid ((readK (readP g) (i + 1) (p + 1) x) = (ks ++ [(readP g q y).1], (readP g q y).2.1, (readP g q y).2.2)) := hid (by rw [readK, ← hq, ← hy, ← hks])
        have HLN := hid hlt
        have hs0 : wy.cell? ⟨lb, 3, none⟩ = some (.slice ao i cap) ∧ wy.cell? ⟨rb, 0, none⟩ = some (rfn pb tb rb) := ⟨r3, rr⟩
        obtain ⟨b1, b2⟩ := pA (p := i) (by have := HN8.out; omega)
        clear hs0
        clear hwk hlt hin hq hy hks hki hyl hq1 hq2 HSH HON rf
        generalize readP g q y = RR at *
        obtain ⟨NXT, hNXT⟩ : ∃ NXT : Value → World → Prop, NXT = fun v w' => ∃ (ka : Option Addr) (kc : Nat) (b : Option Addr) (cp : Nat) (w6 : World), v = .agg #[.int .u8 (RR.1.kind : Int), St RR.1.term, .int .i64 RR.1.n, .slice ka RR.1.kids.length kc] ∧
            (w'.cell? ⟨lb, 3, none⟩ = some (.slice ao i cap) ∧ w'.cell? ⟨rb, 0, none⟩ = some (rfn pb tb rb)) ∧ (∀ o, (w'.alloc o).cell? ⟨lb, 3, none⟩ = some (.slice ao i cap) ∧ (w'.alloc o).cell? ⟨rb, 0, none⟩ = some (rfn pb tb rb)) ∧
            (∀ ty, (Builtin.append_ #[23, 23] ty #[.slice ao i cap, .slice (some ⟨w'.heap.size, 0, none⟩) 1 1]).run Tryz.prog (w'.alloc (.cells #[.int .u8 (RR.1.kind : Int), St RR.1.term, .int .i64 RR.1.n, .slice ka RR.1.kids.length kc] 25)) = .ok (.slice b (i + 1) cp) w6) ∧ (w6.cell? ⟨lb, 3, none⟩ = some (.slice ao i cap) ∧ w6.cell? ⟨rb, 0, none⟩ = some (rfn pb tb rb)) ∧ w6.frozen? ⟨lb, 3, none⟩ = false ∧
            Wk pb tb rb lb RR.2.2 RR.2.1 k g (ks ++ [RR.1]) (.slice b (i + 1) cp) w (w6.setCell ⟨lb, 3, none⟩ (.slice b (i + 1) cp)) := ⟨_, rfl⟩
        have HCB : Hid (∀ Wx, Below wy.heap.size wy Wx → Calls Tryz.prog 40 #[.pointer (some ⟨pb, 0, none⟩), .pointer (some ⟨tb, 0, none⟩), .pointer (some ⟨rb, 0, none⟩)] Wx fun e w' => ∃ v, e = .returned v ∧ NXT v w') := hid (fun Wx hB => (HCA.out Wx hB).mono (by
          rintro e w' ⟨ka, kc, b, cp, w6, rfl, h1⟩
          exact ⟨_, rfl, by rw [hNXT]; exact ⟨ka, kc, b, cp, w6, rfl, h1⟩⟩))
        have HNXT := hid (show ∀ v w', NXT v w' → _ from fun v w' h => by rw [hNXT] at h; exact h)
        clear HCA hNXT
        go_wp2_with (fail)
        refine region_z (fun wq : World => wq.cell? ⟨lb, 3, none⟩ = some (.slice ao i cap) ∧ wq.cell? ⟨rb, 0, none⟩ = some (rfn pb tb rb)) 7 (by kernel_rfl) ?_
        have hs0 := HBX.out _ (below_dr wy)
        refine z_take (i := 0) (oi := ky0) (v := .pointer (some ⟨lb, 3, none⟩)) rfl (by kernel_rfl) (by kernel_rfl) (by kernel_rfl) (fun _ _ _ h => h) (by kernel_rfl) (by decide) (y_all rfl (fun _ => by simp only [ky0]; go_simp)) hs0 ?_
        simp only [Act.put, ky0, List.setIfInBounds_toArray, List.set_cons_zero, List.set_cons_succ]
        refine z_take (i := 1) (oi := ky1) (v := .slice ao i cap) rfl (by kernel_rfl) (by kernel_rfl) (by kernel_rfl) (fun _ _ _ h => h) (by kernel_rfl) (by decide) (y_load rfl 23 (.tmp 32) rfl lb 3 rfl (fun w hw => lkload23 hw.1)) hs0 ?_
        simp only [Act.put, ky1, List.setIfInBounds_toArray, List.set_cons_zero, List.set_cons_succ]
        refine z_take (i := 2) (oi := ky2) (v := rfn pb tb rb) rfl (by kernel_rfl) (by kernel_rfl) (by kernel_rfl) (fun _ _ _ h => h) (by kernel_rfl) (by decide) (y_load rfl 57 (.tmp 2) rfl rb 0 rfl (fun w hw => lkload52 hw.2)) hs0 ?_
        simp only [Act.put, ky2, List.setIfInBounds_toArray, List.set_cons_zero, List.set_cons_succ]
        refine z_all (rs := [3]) (by kernel_rfl) (by simp) (all1 ?_)
        refine op_call (o := ky3) (f := 40) (args := #[.pointer (some ⟨pb, 0, none⟩), .pointer (some ⟨tb, 0, none⟩), .pointer (some ⟨rb, 0, none⟩)]) (R := fun v w' => NXT v w') rfl rfl (by simp only [ky3]; go_simp) (HCB.out _ (below_dr wy)) ?_
        intro v0 wa hnx
        obtain ⟨ka, kc, b, cp, w6, rfl, hs4, hal, hrun, hs6, hf6, hw6⟩ := HNXT.out v0 wa hnx
        have HAL := hid hal
        have HRUN := hid hrun
        have HS6 := hid hs6
        have HF6 := hid hf6
        have HW6 := hid hw6
        clear hs0 hnx hal hrun hs6 hf6 hw6
        have hs0 := hs4
        refine ⟨fun _ => hs0, ?_⟩
        simp only [Act.put, ky3, List.setIfInBounds_toArray, List.set_cons_zero, List.set_cons_succ]
        refine z_all (rs := [4]) (by kernel_rfl) (by simp) (all1 ?_)
        refine op_ok (o := ky4) rfl rfl (v := .slice (some ⟨wa.heap.size, 0, none⟩) 1 1) (w' := wa.alloc (.cells #[.int .u8 (RR.1.kind : Int), St RR.1.term, .int .i64 RR.1.n, .slice ka RR.1.kids.length kc] 25)) (by simp only [ky4]; go_simp) ?_
        have hs1 := HAL.out (.cells #[.int .u8 (RR.1.kind : Int), St RR.1.term, .int .i64 RR.1.n, .slice ka RR.1.kids.length kc] 25)
        refine ⟨fun _ => hs1, ?_⟩
        simp only [Act.put, ky4, List.setIfInBounds_toArray, List.set_cons_zero, List.set_cons_succ]
        refine z_all (rs := [5]) (by kernel_rfl) (by simp) (all1 ?_)
        refine op_append (o := ky5) (v' := .slice b (i + 1) cp) (w' := w6) rfl rfl (.tmp 33) (.tmp 36) 23 rfl (by rfl) (by rfl) HRUN.out ?_
        clear hs0 hs1 hs4
        have hs0 := HS6.out
        refine ⟨fun _ => hs0, ?_⟩
        simp only [Act.put, ky5, List.setIfInBounds_toArray, List.set_cons_zero, List.set_cons_succ]
        refine z_all (rs := [6]) (by kernel_rfl) (by simp) (all1 ?_)
        refine op_ok (o := ky6) (v := .pointer (some ⟨lb, 3, none⟩)) (w' := w6) rfl rfl (by simp only [ky6]; go_simp) ?_
        refine ⟨fun _ => hs0, ?_⟩
        simp only [Act.put, ky6, List.setIfInBounds_toArray, List.set_cons_zero, List.set_cons_succ]
        refine z_all (rs := [7]) (by kernel_rfl) (by simp) (all1 ?_)
        have h00 := hs0.1
        have ff := HF6.out
        refine op_skip (o := ky7) (w' := w6.setCell ⟨lb, 3, none⟩ (.slice b (i + 1) cp)) rfl rfl (by simp only [ky7]; go_simp) ?_
        refine ⟨fun h => absurd rfl h, ?_⟩
        refine z_done (by kernel_rfl) ?_ _
        simp only [Act.put, ky7]
        clear hs0 h00 ff
        go_wp2_with fail
        go_roundg (9 - (i + 1))
        case measure => have := HLN.out; have := HN8.out; omega
        case rel => exact ⟨i + 1, b, cp, _, rfl, rfl, HLN.out, rfl, by rw [HNX.out]; exact HW6.out⟩
      · have hz : ¬ (i : Int) < z := fun e => hlt ((HZN.out i).1 e)
        have hin2 : i = n := by omega
        subst hin2
        obtain ⟨⟨q0, q1, q2, q3, qf⟩, ⟨r0, r1, r2, r3, rf⟩, rr⟩ := hwk.cells
        have HT := hid (hwk.told (by rw [Lk.readK_len]; have := HN8.out; omega) (.int .u8 (k : Int)) (St []) (.int .i64 0) (.slice ao i cap))
        have hln : ¬ lb = w.heap.size := by have := hwk.old; omega
        clear hwk hlt hin
        rw [hk1] at r0
        go_wp2_with fail
        rw [HR.out]
        have HL : lcs (.mk k [] 0 (readK (readP g) i (p + 1) x).1) (.slice ao i cap) = #[.int .u8 (k : Int), St [], .int .i64 0, .slice ao i cap] := rfl
        rw [hk1] at HT HL
        refine bodyPost_ret (v := .agg #[.int .u8 _, St [], .int .i64 0, .slice ao i cap]) (ret_lock Tryz.results40 rfl HT.out.1) rfl ⟨.slice ao i cap, ?_, HT.out.2.2.2, HT.out.2.1, HT.out.2.2.1⟩
        show _ = Ending.returned (.agg (lcs (.mk k [] 0 (readK (readP g) i (p + 1) x).1) (.slice ao i cap)))
        rw [HL]
end Go.Proofs.YtdllpklecdmghaaGreatDoor
/- What the reading of a lock does, whatever the text. -/
namespace Go.Proofs.YtdllpklecdmghaaGreatDoor
open Go.RowKit
open Lk (Lt readP readK)
theorem lkread_any {pb tb rb : Nat} : ∀ (g p : Nat) (s : Bs) (w : World), 64 ≤ g + p → p ≤ 1000 → s.length ≤ 140737488355328 → Rs pb tb rb p s w → Calls Tryz.prog 40 #[.pointer (some ⟨pb, 0, none⟩), .pointer (some ⟨tb, 0, none⟩), .pointer (some ⟨rb, 0, none⟩)] w (RdE pb tb rb g w (readP g p s)) := by
  intro g
  induction g with
  | zero =>
    intro p s w hg hp hs h
    rw [readP]
    exact read_far h (by omega) (by omega) 0
  | succ g ih =>
    intro p s w hg hp hs h
    rw [readP]
    by_cases h64 : 64 ≤ p
    · rw [if_pos h64]
      exact read_far h h64 (by omega) _
    · rw [if_neg h64]
      by_cases h12 : Sc.kindOf (s.headD 0) = 1 ∨ Sc.kindOf (s.headD 0) = 2
      · rw [if_pos h12]
        exact read_term h (by omega) hs _ _ rfl h12
      · rw [if_neg h12]
        by_cases h34 : Sc.kindOf (s.headD 0) = 3 ∨ Sc.kindOf (s.headD 0) = 4
        · rw [if_pos h34]
          exact read_num h (by omega) hs _ _ rfl h34 _ rfl
        · rw [if_neg h34]
          by_cases h56 : Sc.kindOf (s.headD 0) = 5 ∨ Sc.kindOf (s.headD 0) = 6
          · rw [if_pos h56]
            exact read_kids h (by omega) hs _ rfl h56 (fun q z W a b c d => ih q z W (by omega) b c d) _ rfl
          · rw [if_neg h56]
            have h6 := kindOf_six (s.headD 0)
            exact lkread_none h (by omega) hs _ _ rfl (by omega)
end Go.Proofs.YtdllpklecdmghaaGreatDoor
/- Read, whatever the text. -/
namespace Go.Proofs.YtdllpklecdmghaaGreatDoor
open Go.RowKit
open Lk (Lt readP readK)
def rdL (s : Bs) : Lt := (Lk.rdRes s).getD Lt.zero
def rdE (s : Bs) : Int := if (Lk.rdRes s).isSome then 0 else 110
theorem rd_yes {s : Bs} (h1 : (readP 65 0 s).2.1 = []) (h2 : Lk.right (readP 65 0 s).1 = true) : rdL s = (readP 65 0 s).1 ∧ rdE s = 0 := by
  have h : Lk.rdRes s = some (readP 65 0 s).1 := by unfold Lk.rdRes; rw [if_pos ⟨h1, h2⟩]
  unfold rdL rdE
  rw [h]
  exact ⟨rfl, rfl⟩
theorem rd_no {s : Bs} (h : ¬ ((readP 65 0 s).2.1 = [] ∧ Lk.right (readP 65 0 s).1 = true)) : rdL s = Lt.zero ∧ rdE s = 110 := by
  have h : Lk.rdRes s = none := by unfold Lk.rdRes; rw [if_neg h]
  unfold rdL rdE
  rw [h]
  exact ⟨rfl, rfl⟩
theorem store_rf (w : World) (a b c : Obj) (lb : Array Value) : (store ⟨w.heap.size + 1 + 1 + 1, 0, none⟩ (.func (.func 40) #[] lb)).run Tryz.prog ((((w.alloc a).alloc b).alloc c).alloc (.cells #[.nilFunc] 57)) = .ok () ((((w.alloc a).alloc b).alloc c).alloc (.cells #[.func (.func 40) #[] lb] 57)) := by
  have hs : w.heap.size + 1 + 1 + 1 = (((w.alloc a).alloc b).alloc c).heap.size := by simp
  rw [hs]
  generalize ((w.alloc a).alloc b).alloc c = W
  have hn := heap_alloc_new W (.cells #[.nilFunc] 57)
  have hc : (W.alloc (.cells #[.nilFunc] 57)).cell? ⟨W.heap.size, 0, none⟩ = some .nilFunc := by rw [cell_of_heap hn]; rfl
  have hf := frozen_of_heap hn 0
  rw [run_store Tryz.prog _ _ _ _ rfl, hc]
  simp [hf]
  rw [setCell_eq_setRow _ _ _ _ _ _ _ hn, World.setRow_alloc_new]
  rfl
theorem ret_lock2 {fn : Func} {tmps : Array Value} {k u g : Nat} {v0 v1 v2 v3 x : Value} {w : World} (hr : fn.results = #[.cell k 25, .tmp u]) (hk : tmps.getD k undef = .pointer (some ⟨g, 0, none⟩)) (hu : tmps.getD u undef = x) (h : w.heap[g]? = some (.cells #[v0, v1, v2, v3] 25 (0, 0))) : (results fn tmps).run Tryz.prog w = .ok (.tuple #[.agg #[v0, v1, v2, v3], x]) w := by
  rw [results_cell_tmp hr, hk, hu]
  have hl := run_loadVar_row (P := Tryz.prog) w g 25 25 _ (0, 0) _ h Tryz.underlying25 rfl Tryz.size25
  simp [asAddr, hl, Result.andThen]
theorem rs_start (s : Bs) (w W : World) (hW : W = (((w.alloc (.cells #[.int .u8 0, .string ⟨#[]⟩, .int .i64 0, .slice none 0 0] 25)).alloc (.cells #[St s] 56)).alloc (.cells #[.int .i64 0] 3)).alloc (.cells #[rfn (w.heap.size + 1 + 1) (w.heap.size + 1) (w.heap.size + 1 + 1 + 1)] 57)) :
    Rs (w.heap.size + 1 + 1) (w.heap.size + 1) (w.heap.size + 1 + 1 + 1) 0 s W ∧ W.heap[w.heap.size]? = some (.cells #[.int .u8 0, .string ⟨#[]⟩, .int .i64 0, .slice none 0 0] 25 (0, 0)) ∧ W.heap.size = w.heap.size + 1 + 1 + 1 + 1 ∧ Below w.heap.size w W := by
  have e1 : (w.alloc (.cells #[.int .u8 0, .string ⟨#[]⟩, .int .i64 0, .slice none 0 0] 25)).heap.size = w.heap.size + 1 := by simp
  generalize hw1 : w.alloc (.cells #[.int .u8 0, .string ⟨#[]⟩, .int .i64 0, .slice none 0 0] 25) = w1 at *
  have h1 : w1.heap[w.heap.size]? = some (.cells #[.int .u8 0, .string ⟨#[]⟩, .int .i64 0, .slice none 0 0] 25 (0, 0)) := by rw [← hw1]; exact heap_alloc_new w _
  have b1 : Below w.heap.size w w1 := by rw [← hw1]; exact below_al w _
  have e2 : (w1.alloc (.cells #[St s] 56)).heap.size = w1.heap.size + 1 := by simp
  have h2 := heap_alloc_new w1 (.cells #[St s] 56)
  have b2 := below_al w1 (.cells #[St s] 56)
  generalize w1.alloc (.cells #[St s] 56) = w2 at *
  have e3 : (w2.alloc (.cells #[.int .i64 0] 3)).heap.size = w2.heap.size + 1 := by simp
  have h3 := heap_alloc_new w2 (.cells #[.int .i64 0] 3)
  have b3 := below_al w2 (.cells #[.int .i64 0] 3)
  generalize w2.alloc (.cells #[.int .i64 0] 3) = w3 at *
  have e4 : (w3.alloc (.cells #[rfn (w.heap.size + 1 + 1) (w.heap.size + 1) (w.heap.size + 1 + 1 + 1)] 57)).heap.size = w3.heap.size + 1 := by simp
  have h4 := heap_alloc_new w3 (.cells #[rfn (w.heap.size + 1 + 1) (w.heap.size + 1) (w.heap.size + 1 + 1 + 1)] 57)
  have b4 := below_al w3 (.cells #[rfn (w.heap.size + 1 + 1) (w.heap.size + 1) (w.heap.size + 1 + 1 + 1)] 57)
  rw [← hW] at e4 h4 b4
  refine ⟨⟨?_, ?_, ?_, by omega, by omega, by omega⟩, ?_, by omega, ?_⟩
  · rw [b4.block _ (by omega)]
    rw [show w.heap.size + 1 + 1 = w2.heap.size by omega]
    exact h3
  · rw [b4.block _ (by omega), b3.block _ (by omega)]
    rw [show w.heap.size + 1 = w1.heap.size by omega]
    exact h2
  · have e5 : w.heap.size + 1 + 1 + 1 = w3.heap.size := by omega
    rw [← e5] at h4
    exact h4
  · rw [b4.block _ (by omega), b3.block _ (by omega), b2.block _ (by omega)]
    exact h1
  · exact b1.trans ((b2.mono (by omega)).trans ((b3.mono (by omega)).trans (b4.mono (by omega))))
theorem fq_below {pb tb : Nat} {w W W' : World} (h : Fq pb tb W W') (hB : Below w.heap.size w W) (hp : w.heap.size ≤ pb) (ht : w.heap.size ≤ tb) : Below w.heap.size w W' :=
  ⟨h.os.trans hB.os, h.tape.trans hB.tape, h.out.trans hB.output, Nat.le_trans hB.size h.size, fun g hg => (h.els g (Nat.lt_of_lt_of_le hg hB.size) (by omega) (by omega)).trans (hB.block g hg)⟩
set_option maxRecDepth 100000 in
set_option maxHeartbeats 8000000 in
theorem read_all (s : Bs) (w : World) (hs : s.length ≤ 140737488355328) : Calls Tryz.prog 16 #[St s] w fun e w' => (∃ kv, e = .returned (.tuple #[.agg (lcs (rdL s) kv), .int .i64 (rdE s)]) ∧ Kd (fun g => w.heap.size ≤ g) w' 65 kv (rdL s).kids) ∧ Below w.heap.size w w' := by
  have eg := eg30
  have HSF := store_rf w (.cells #[.int .u8 0, .string ⟨#[]⟩, .int .i64 0, .slice none 0 0] 25) (.cells #[.string ⟨s.toArray⟩] 56) (.cells #[.int .i64 0] 3)
  obtain ⟨W, hW⟩ : ∃ W, W = (((w.alloc (.cells #[.int .u8 0, .string ⟨#[]⟩, .int .i64 0, .slice none 0 0] 25)).alloc (.cells #[St s] 56)).alloc (.cells #[.int .i64 0] 3)).alloc (.cells #[rfn (w.heap.size + 1 + 1) (w.heap.size + 1) (w.heap.size + 1 + 1 + 1)] 57) := ⟨_, rfl⟩
  obtain ⟨g1, g2, g3, g4⟩ := rs_start s w W hW
  have HR := hid (lkread_any 65 0 s W (by omega) (by omega) hs g1)
  have HG1 := hid g1
  have HG2 := hid g2
  have HG3 := hid g3
  have HG4 := hid g4
  have HY := hid (rd_yes (s := s))
  have HN := hid (rd_no (s := s))
  generalize rdL s = RL at *
  generalize rdE s = RE at *
  generalize readP 65 0 s = RR at *
  clear g1 g2 g3 g4 hs
  go_enter Tryz.func16, Tryz.ntmps16
  go_wp2_with fail
  rw [← hW]
  refine HR.out.mono ?_
  rintro e w5 ⟨kv, rfl, hk, hrs, hfq⟩
  obtain ⟨hz, ka, kc, rfl⟩ := hk.shape
  have HL : Hid (lcs RR.1 (.slice ka RR.1.kids.length kc) = #[.int .u8 (RR.1.kind : Int), St RR.1.term, .int .i64 RR.1.n, .slice ka RR.1.kids.length kc]) := hid rfl
  rw [HL.out]
  obtain ⟨w6, hw6⟩ : ∃ w6, w6 = w5.alloc (.cells #[.int .u8 (RR.1.kind : Int), St RR.1.term, .int .i64 RR.1.n, .slice ka RR.1.kids.length kc] 25) := ⟨_, rfl⟩
  have hs5 := hfq.size
  have hsz := HG3.out
  have hb6 : Below w5.heap.size w5 w6 := hw6 ▸ below_al w5 _
  have HB5 := hid (fq_below hfq HG4.out (by omega) (by omega))
  have HB6 : Hid (Below w.heap.size w w6) := hid (HB5.out.trans (hb6.mono HB5.out.size))
  have HK6 : Hid (Kd (fun g => w.heap.size + 1 ≤ g) w6 65 (.slice ka RR.1.kids.length kc) RR.1.kids) := hid ((hk.base (fun g hg => by have := hg.1; omega)).low hb6)
  have c1 : w6.cell? ⟨w.heap.size + 1, 0, none⟩ = some (St RR.2.1) := cell_later hb6 ((cell_of_heap hrs.tc 0).trans rfl)
  have hbx : w6.heap[w5.heap.size]? = some (.cells #[.int .u8 (RR.1.kind : Int), St RR.1.term, .int .i64 RR.1.n, .slice ka RR.1.kids.length kc] 25 (0, 0)) := hw6 ▸ heap_alloc_new w5 _
  have hrz : w6.heap[w.heap.size]? = some (.cells #[.int .u8 0, .string ⟨#[]⟩, .int .i64 0, .slice none 0 0] 25 (0, 0)) := by
    rw [hb6.block _ (by omega), hfq.els _ (by omega) (by omega) (by omega)]
    exact HG2.out
  have HRI : Hid (Calls Tryz.prog 10 #[.agg #[.int .u8 (RR.1.kind : Int), St RR.1.term, .int .i64 RR.1.n, .slice ka RR.1.kids.length kc]] w6 fun e w' => e = .returned (.bool (Lk.right RR.1)) ∧ Below w6.heap.size w6 w') := hid (lright_any 65 RR.1 _ w6 HK6.out)
  have HBX := hid hbx
  have HRZ := hid hrz
  have HNE := hid (show w5.heap.size ≠ w.heap.size by omega)
  have d0 : w6.cell? ⟨w5.heap.size, 0, none⟩ = some (.int .u8 (RR.1.kind : Int)) := (cell_of_heap hbx 0).trans rfl
  have d1 : w6.cell? ⟨w5.heap.size, 1, none⟩ = some (St RR.1.term) := (cell_of_heap hbx 1).trans rfl
  have d2 : w6.cell? ⟨w5.heap.size, 2, none⟩ = some (.int .i64 RR.1.n) := (cell_of_heap hbx 2).trans rfl
  have d3 : w6.cell? ⟨w5.heap.size, 3, none⟩ = some (.slice ka RR.1.kids.length kc) := (cell_of_heap hbx 3).trans rfl
  have z0 : w6.cell? ⟨w.heap.size, 0, none⟩ = some (.int .u8 0) := (cell_of_heap hrz 0).trans rfl
  have z1 : w6.cell? ⟨w.heap.size, 1, none⟩ = some (.string ⟨#[]⟩) := (cell_of_heap hrz 1).trans rfl
  have z2 : w6.cell? ⟨w.heap.size, 2, none⟩ = some (.int .i64 0) := (cell_of_heap hrz 2).trans rfl
  have z3 : w6.cell? ⟨w.heap.size, 3, none⟩ = some (.slice none 0 0) := (cell_of_heap hrz 3).trans rfl
  have zf : ∀ j, w6.frozen? ⟨w.heap.size, j, none⟩ = false := fun j => frozen_of_heap hrz j
  clear hk hrs hfq hz hs5 hsz hb6 hbx hrz HG1 HG2 HG3 HG4 HB5 hW HSF eg HR
  obtain ⟨T, hT⟩ : ∃ T, T = RR.2.1 := ⟨_, rfl⟩
  rw [← hT] at c1 HY HN
  clear hT
  by_cases hT0 : T = []
  rotate_left
  · obtain ⟨rfl, rfl⟩ := HN.out (fun h => hT0 h.1)
    have hne : (T == []) = false := by simpa using hT0
    clear HY HN HRI hT0
    subst hw6
    go_wp2_with fail
    refine bodyPost_ret (v := .tuple #[.agg #[.int .u8 0, .string ⟨#[]⟩, .int .i64 0, .slice none 0 0], .int .i64 110]) (ret_lock2 Tryz.results16 rfl rfl (setL_same HRZ.out 0 _ _ _ _)) rfl ⟨⟨.slice none 0 0, rfl, Kd.nil _ _ _⟩, setL_below HB6.out (Nat.le_refl _) 0 _ _ _ _⟩
  · subst hT0
    have HY2 := hid (HY.out rfl)
    have HN2 : Hid (Lk.right RR.1 = false → RL = Lt.zero ∧ RE = 110) := hid (fun hf => HN.out (fun h => by rw [hf] at h; cases h.2))
    clear HY HN
    have c1 : w6.cell? ⟨w.heap.size + 1, 0, none⟩ = some (.string ⟨#[]⟩) := c1
    subst hw6
    go_wp2_with fail
    refine HRI.out.mono ?_
    rintro e w7 ⟨rfl, hb7⟩
    have hbx7 : w7.heap[w5.heap.size]? = some (.cells #[.int .u8 (RR.1.kind : Int), St RR.1.term, .int .i64 RR.1.n, .slice ka RR.1.kids.length kc] 25 (0, 0)) := (hb7.block _ (lt_of_heap HBX.out)).trans HBX.out
    have hrz7 : w7.heap[w.heap.size]? = some (.cells #[.int .u8 0, .string ⟨#[]⟩, .int .i64 0, .slice none 0 0] 25 (0, 0)) := (hb7.block _ (lt_of_heap HRZ.out)).trans HRZ.out
    have HRZ7 := hid hrz7
    have HB7 : Hid (Below w.heap.size w w7) := hid (HB6.out.trans (hb7.mono HB6.out.size))
    have HK7 : Hid (Kd (fun g => w.heap.size + 1 ≤ g) w7 65 (.slice ka RR.1.kids.length kc) RR.1.kids) := hid (HK6.out.low hb7)
    have y0 : w7.cell? ⟨w5.heap.size, 0, none⟩ = some (.int .u8 (RR.1.kind : Int)) := (cell_of_heap hbx7 0).trans rfl
    have y1 : w7.cell? ⟨w5.heap.size, 1, none⟩ = some (St RR.1.term) := (cell_of_heap hbx7 1).trans rfl
    have y2 : w7.cell? ⟨w5.heap.size, 2, none⟩ = some (.int .i64 RR.1.n) := (cell_of_heap hbx7 2).trans rfl
    have y3 : w7.cell? ⟨w5.heap.size, 3, none⟩ = some (.slice ka RR.1.kids.length kc) := (cell_of_heap hbx7 3).trans rfl
    have x0 : w7.cell? ⟨w.heap.size, 0, none⟩ = some (.int .u8 0) := (cell_of_heap hrz7 0).trans rfl
    have x1 : w7.cell? ⟨w.heap.size, 1, none⟩ = some (.string ⟨#[]⟩) := (cell_of_heap hrz7 1).trans rfl
    have x2 : w7.cell? ⟨w.heap.size, 2, none⟩ = some (.int .i64 0) := (cell_of_heap hrz7 2).trans rfl
    have x3 : w7.cell? ⟨w.heap.size, 3, none⟩ = some (.slice none 0 0) := (cell_of_heap hrz7 3).trans rfl
    have xf : ∀ j, w7.frozen? ⟨w.heap.size, j, none⟩ = false := fun j => frozen_of_heap hrz7 j
    clear hb7 hbx7 hrz7 d0 d1 d2 d3 z0 z1 z2 z3 zf c1 HRI
    cases hR : Lk.right RR.1 with
    | true =>
      obtain ⟨rfl, rfl⟩ := HY2.out hR
      clear HY2 HN2 hR
      go_wp2_with fail
      refine bodyPost_ret (v := .tuple #[.agg #[.int .u8 (RR.1.kind : Int), St RR.1.term, .int .i64 RR.1.n, .slice ka RR.1.kids.length kc], .int .i64 0]) (ret_lock2 Tryz.results16 rfl rfl (setL_same HRZ7.out 0 _ _ _ _)) rfl ⟨⟨.slice ka RR.1.kids.length kc, by rw [HL.out], ?_⟩, setL_below HB7.out (Nat.le_refl _) 0 _ _ _ _⟩
      exact ((HK7.out).same (fun g (hg : w.heap.size + 1 ≤ g) _ => setL_other w7 w.heap.size 0 _ _ _ _ (by omega))).base (fun g hg => by omega)
    | false =>
      obtain ⟨rfl, rfl⟩ := HN2.out hR
      clear HY2 HN2 hR
      go_wp2_with fail
      refine bodyPost_ret (v := .tuple #[.agg #[.int .u8 0, .string ⟨#[]⟩, .int .i64 0, .slice none 0 0], .int .i64 110]) (ret_lock2 Tryz.results16 rfl rfl (setL_same HRZ7.out 0 _ _ _ _)) rfl ⟨⟨.slice none 0 0, rfl, Kd.nil _ _ _⟩, setL_below HB7.out (Nat.le_refl _) 0 _ _ _ _⟩
end Go.Proofs.YtdllpklecdmghaaGreatDoor
