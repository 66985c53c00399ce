/- LockMore: the law. -/
import Derived.Test.YtdllpklecdmghaaGreatDoorLkBkAll
import Derived.Test.YtdllpklecdmghaaGreatDoorLkMr
import Derived.Test.YtdllpklecdmghaaGreatDoorLkTxAll
import Derived.Test.YtdllpklecdmghaaGreatDoorLkLN
import Derived.Deep.Cut
import Derived.Deep.CutRange
namespace Go.Proofs.YtdllpklecdmghaaGreatDoor
open Go.RowKit
open Lk (Lt Sp)
def ko0 : Oper := { dst := some 51, op := Op.load 25 (Operand.tmp 8), type := 25, pos := "outright.go:40", after := #[], guard := none }
def ko1 : Oper := { dst := some 52, op := Op.load 40 (Operand.tmp 10), type := 40, pos := "outright.go:40", after := #[], guard := none }
def ko2 : Oper := { dst := some 53, op := Op.move (Operand.tmp 3), type := 22, pos := "outright.go:40", after := #[], guard := none }
def ko3 : Oper := { dst := some 54, op := Op.move (Operand.tmp 5), type := 3, pos := "outright.go:40", after := #[], guard := none }
def ko4 : Oper := { dst := some 55, op := Op.move (Operand.tmp 6), type := 3, pos := "outright.go:40", after := #[], guard := none }
def ko5 : Oper := { dst := some 56, op := Op.call { callee := Callee.value (Operand.func 20), args := #[Operand.tmp 51, Operand.tmp 52, Operand.tmp 53, Operand.tmp 54, Operand.tmp 55], argTypes := #[25, 40, 22, 3, 3] }, type := 4, pos := "outright.go:40", after := #[{ on := 0, ground := Ground.data }, { on := 1, ground := Ground.data }, { on := 2, ground := Ground.data }, { on := 3, ground := Ground.data }, { on := 4, ground := Ground.data }], guard := none }
def ko6 : Oper := { dst := some 57, op := Op.load 25 (Operand.tmp 9), type := 25, pos := "outright.go:40", after := #[], guard := none }
def ko7 : Oper := { dst := some 58, op := Op.load 40 (Operand.tmp 10), type := 40, pos := "outright.go:40", after := #[], guard := none }
def ko8 : Oper := { dst := some 59, op := Op.move (Operand.tmp 3), type := 22, pos := "outright.go:40", after := #[], guard := none }
def ko9 : Oper := { dst := some 60, op := Op.move (Operand.tmp 5), type := 3, pos := "outright.go:40", after := #[], guard := none }
def ko10 : Oper := { dst := some 61, op := Op.move (Operand.tmp 6), type := 3, pos := "outright.go:40", after := #[], guard := none }
def ko11 : Oper := { dst := some 62, op := Op.call { callee := Callee.value (Operand.func 20), args := #[Operand.tmp 57, Operand.tmp 58, Operand.tmp 59, Operand.tmp 60, Operand.tmp 61], argTypes := #[25, 40, 22, 3, 3] }, type := 4, pos := "outright.go:40", after := #[{ on := 6, ground := Ground.data }, { on := 7, ground := Ground.data }, { on := 8, ground := Ground.data }, { on := 9, ground := Ground.data }, { on := 10, ground := Ground.data }, { on := 5, ground := Ground.chain }], guard := none }
def ko12 : Oper := { dst := some 17, op := Op.assign (Operand.tmp 56), type := 4, pos := "outright.go:40", after := #[{ on := 5, ground := Ground.data }, { on := 11, ground := Ground.chain }, { on := 0, ground := Ground.phase }, { on := 1, ground := Ground.phase }, { on := 2, ground := Ground.phase }, { on := 3, ground := Ground.phase }, { on := 4, ground := Ground.phase }, { on := 5, ground := Ground.phase }, { on := 6, ground := Ground.textOnly Departure.lateStores }, { on := 7, ground := Ground.textOnly Departure.lateStores }, { on := 8, ground := Ground.textOnly Departure.lateStores }, { on := 9, ground := Ground.textOnly Departure.lateStores }, { on := 10, ground := Ground.textOnly Departure.lateStores }, { on := 11, ground := Ground.textOnly Departure.lateStoresUnsure }], guard := none }
def ko13 : Oper := { dst := some 18, op := Op.assign (Operand.tmp 62), type := 4, pos := "outright.go:40", after := #[{ on := 11, ground := Ground.data }, { on := 12, ground := Ground.chain }, { on := 0, ground := Ground.phase }, { on := 1, ground := Ground.phase }, { on := 2, ground := Ground.phase }, { on := 3, ground := Ground.phase }, { on := 4, ground := Ground.phase }, { on := 5, ground := Ground.phase }, { on := 6, ground := Ground.phase }, { on := 7, ground := Ground.phase }, { on := 8, ground := Ground.phase }, { on := 9, ground := Ground.phase }, { on := 10, ground := Ground.phase }, { on := 11, ground := Ground.phase }, { on := 12, ground := Ground.phase }], guard := none }
def kn0 : Oper := { dst := some 150, op := Op.load 25 (Operand.tmp 21), type := 25, pos := "outright.go:54", after := #[], guard := none }
def kn1 : Oper := { dst := some 151, op := Op.call { callee := Callee.value (Operand.func 10), args := #[Operand.tmp 150], argTypes := #[25] }, type := 4, pos := "outright.go:54", after := #[{ on := 0, ground := Ground.data }], guard := none }
def kn2 : Oper := { dst := some 152, op := Op.load 25 (Operand.tmp 22), type := 25, pos := "outright.go:54", after := #[], guard := none }
def kn3 : Oper := { dst := some 153, op := Op.call { callee := Callee.value (Operand.func 10), args := #[Operand.tmp 152], argTypes := #[25] }, type := 4, pos := "outright.go:54", after := #[{ on := 2, ground := Ground.data }, { on := 1, ground := Ground.chain }], guard := none }
def kn4 : Oper := { dst := some 154, op := Op.binOp BinOp.eql 4 (Operand.tmp 151) (Operand.tmp 153) 4, type := 4, pos := "outright.go:54", after := #[{ on := 1, ground := Ground.data }, { on := 3, ground := Ground.data }], guard := none }
def kn5 : Oper := { dst := some 155, op := Op.move (Operand.tmp 154), type := 4, pos := "outright.go:54", after := #[{ on := 4, ground := Ground.data }, { on := 3, ground := Ground.chain }], guard := none }
def kn6 : Oper := { dst := some 156, op := Op.load 25 (Operand.tmp 21), type := 25, pos := "outright.go:54", after := #[{ on := 5, ground := Ground.guard }], guard := some (5, true) }
def kn7 : Oper := { dst := some 157, op := Op.call { callee := Callee.value (Operand.func 10), args := #[Operand.tmp 156], argTypes := #[25] }, type := 4, pos := "outright.go:54", after := #[{ on := 6, ground := Ground.data }, { on := 5, ground := Ground.chain }, { on := 5, ground := Ground.guard }], guard := some (5, true) }
def kn8 : Oper := { dst := some 158, op := Op.unOp UnOp.not 4 (Operand.tmp 157), type := 4, pos := "outright.go:54", after := #[{ on := 7, ground := Ground.data }, { on := 5, ground := Ground.guard }], guard := some (5, true) }
def kn9 : Oper := { dst := some 159, op := Op.move (Operand.tmp 158), type := 4, pos := "outright.go:54", after := #[{ on := 8, ground := Ground.data }, { on := 7, ground := Ground.chain }, { on := 5, ground := Ground.guard }], guard := some (5, true) }
def kn10 : Oper := { dst := some 160, op := Op.load 25 (Operand.tmp 8), type := 25, pos := "outright.go:54", after := #[{ on := 9, ground := Ground.guard }], guard := some (9, false) }
def kn11 : Oper := { dst := some 161, op := Op.call { callee := Callee.value (Operand.func 10), args := #[Operand.tmp 160], argTypes := #[25] }, type := 4, pos := "outright.go:54", after := #[{ on := 10, ground := Ground.data }, { on := 9, ground := Ground.chain }, { on := 9, ground := Ground.guard }], guard := some (9, false) }
def kn12 : Oper := { dst := some 162, op := Op.move (Operand.tmp 161), type := 4, pos := "outright.go:54", after := #[{ on := 11, ground := Ground.data }, { on := 11, ground := Ground.chain }, { on := 9, ground := Ground.guard }], guard := some (9, false) }
def kn13 : Oper := { dst := some 163, op := Op.load 25 (Operand.tmp 9), type := 25, pos := "outright.go:54", after := #[{ on := 12, ground := Ground.guard }], guard := some (12, true) }
def kn14 : Oper := { dst := some 164, op := Op.call { callee := Callee.value (Operand.func 10), args := #[Operand.tmp 163], argTypes := #[25] }, type := 4, pos := "outright.go:54", after := #[{ on := 13, ground := Ground.data }, { on := 12, ground := Ground.chain }, { on := 12, ground := Ground.guard }], guard := some (12, true) }
def kn15 : Oper := { dst := some 165, op := Op.pick (Operand.tmp 162) (Operand.tmp 164) (Operand.const (Value.bool false)), type := 4, pos := "outright.go:54", after := #[{ on := 12, ground := Ground.data }, { on := 14, ground := Ground.data }, { on := 9, ground := Ground.guard }], guard := some (9, false) }
def kn16 : Oper := { dst := some 166, op := Op.pick (Operand.tmp 159) (Operand.const (Value.bool true)) (Operand.tmp 165), type := 4, pos := "outright.go:54", after := #[{ on := 9, ground := Ground.data }, { on := 15, ground := Ground.data }, { on := 5, ground := Ground.guard }], guard := some (5, true) }
def kn17 : Oper := { dst := some 167, op := Op.pick (Operand.tmp 155) (Operand.tmp 166) (Operand.const (Value.bool false)), type := 4, pos := "outright.go:54", after := #[{ on := 5, ground := Ground.data }, { on := 16, ground := Ground.data }], guard := none }
def kn18 : Oper := { dst := some 168, op := Op.move (Operand.tmp 167), type := 4, pos := "outright.go:54", after := #[{ on := 17, ground := Ground.data }, { on := 14, ground := Ground.chain }], guard := none }
def kn19 : Oper := { dst := some 169, op := Op.call { callee := Callee.value (Operand.func 15), args := #[], argTypes := #[] }, type := 4, pos := "outright.go:54", after := #[{ on := 18, ground := Ground.chain }, { on := 18, ground := Ground.guard }], guard := some (18, true) }
def kn20 : Oper := { dst := some 170, op := Op.pick (Operand.tmp 168) (Operand.tmp 169) (Operand.const (Value.bool false)), type := 4, pos := "outright.go:54", after := #[{ on := 18, ground := Ground.data }, { on := 19, ground := Ground.data }], guard := none }
def kn21 : Oper := { dst := some 16, op := Op.assign (Operand.tmp 170), type := 4, pos := "outright.go:54", after := #[{ on := 20, ground := Ground.data }, { on := 19, ground := Ground.chain }, { on := 0, ground := Ground.phase }, { on := 1, ground := Ground.phase }, { on := 2, ground := Ground.phase }, { on := 3, ground := Ground.phase }, { on := 4, ground := Ground.phase }, { on := 5, ground := Ground.phase }, { on := 6, ground := Ground.phase }, { on := 7, ground := Ground.phase }, { on := 8, ground := Ground.phase }, { on := 9, ground := Ground.phase }, { on := 10, ground := Ground.phase }, { on := 11, ground := Ground.phase }, { on := 12, ground := Ground.phase }, { on := 13, ground := Ground.phase }, { on := 14, ground := Ground.phase }, { on := 15, ground := Ground.phase }, { on := 16, ground := Ground.phase }, { on := 17, ground := Ground.phase }, { on := 18, ground := Ground.phase }, { on := 19, ground := Ground.phase }, { on := 20, ground := Ground.phase }], guard := none }
theorem box_three (w wB : World) (x0 x1 x2 x3 y0 y1 y2 y3 s0 s1 : Value) (hW : wB = ((w.alloc (.cells #[x0, x1, x2, x3] 25)).alloc (.cells #[y0, y1, y2, y3] 25)).alloc (.cells #[s0, s1] 40)) : Below w.heap.size w wB ∧ ∀ W, Below wB.heap.size wB W → (W.cell? ⟨w.heap.size, 0, none⟩ = some x0 ∧ W.cell? ⟨w.heap.size, 1, none⟩ = some x1 ∧ W.cell? ⟨w.heap.size, 2, none⟩ = some x2 ∧ W.cell? ⟨w.heap.size, 3, none⟩ = some x3) ∧ (W.cell? ⟨w.heap.size + 1, 0, none⟩ = some y0 ∧ W.cell? ⟨w.heap.size + 1, 1, none⟩ = some y1 ∧ W.cell? ⟨w.heap.size + 1, 2, none⟩ = some y2 ∧ W.cell? ⟨w.heap.size + 1, 3, none⟩ = some y3) ∧ W.cell? ⟨w.heap.size + 1 + 1, 0, none⟩ = some s0 ∧ W.cell? ⟨w.heap.size + 1 + 1, 1, none⟩ = some s1 := by
  obtain ⟨w2, hw2⟩ : ∃ w2, w2 = (w.alloc (.cells #[x0, x1, x2, x3] 25)).alloc (.cells #[y0, y1, y2, y3] 25) := ⟨_, rfl⟩
  obtain ⟨hb, hc⟩ := box_two w w2 _ _ _ _ _ _ _ _ hw2
  have hs : w2.heap.size = w.heap.size + 1 + 1 := by rw [hw2]; simp
  rw [← hw2] at hW
  have h3 := heap_alloc_new w2 (.cells #[s0, s1] 40)
  have b3 := below_al w2 (.cells #[s0, s1] 40)
  rw [← hW] at h3 b3
  refine ⟨hb.trans (b3.mono hb.size), fun W hB => ?_⟩
  obtain ⟨h1, h2⟩ := hc W (b3.trans (hB.mono b3.size))
  have k3 := (hB.block _ (lt_of_heap h3)).trans h3
  rw [hs] at k3
  exact ⟨h1, h2, (cell_of_heap k3 0).trans rfl, (cell_of_heap k3 1).trans rfl⟩
set_option maxRecDepth 100000 in
set_option maxHeartbeats 16000000 in
theorem more_any {b1 b2 : Nat → Prop} (la lb : Lt) (aa ba : Option Addr) (ac bc da db : Nat) (sg pr : List Bs) (sa pa : Option Addr) (n1 n2 sc pc : Nat) (msg mt : Bs) (af ag lt : Int) (w : World) (hp : Pw w) (ka : Kd b1 w da (.slice aa la.kids.length ac) la.kids) (kb : Kd b2 w db (.slice ba lb.kids.length bc) lb.kids) (ra : Lr la) (rb : Lr lb) (hn1 : n1 = sg.length) (hn2 : n2 = pr.length) (ts : Texts w (.slice sa n1 sc) sg) (tp : Texts w (.slice pa n2 pc) pr) (l1 : sg.length ≤ 140737488355328) (l2 : pr.length ≤ 140737488355328) (l3 : msg.length ≤ 140737488355328) (l4 : ∀ x ∈ sg, x.length ≤ 140737488355328) (l5 : ∀ x ∈ pr, x.length ≤ 140737488355328) (haf : -9223372036854775808 ≤ af ∧ af < 9223372036854775808) (hag : -9223372036854775808 ≤ ag ∧ ag < 9223372036854775808) :
    Calls Tryz.prog 31 #[.agg #[.int .u8 (la.kind : Int), St la.term, .int .i64 la.n, .slice aa la.kids.length ac], .agg #[.int .u8 (lb.kind : Int), St lb.term, .int .i64 lb.n, .slice ba lb.kids.length bc], .agg #[.slice sa n1 sc, .slice pa n2 pc], St msg, St mt, .int .i64 af, .int .i64 ag, .int .i64 lt] w fun e w' => e = .returned (.bool true) ∧ Below w.heap.size w w' := by
  obtain ⟨wB, hwB⟩ : ∃ wB, wB = ((w.alloc (.cells #[.int .u8 (la.kind : Int), St la.term, .int .i64 la.n, .slice aa la.kids.length ac] 25)).alloc (.cells #[.int .u8 (lb.kind : Int), St lb.term, .int .i64 lb.n, .slice ba lb.kids.length bc] 25)).alloc (.cells #[.slice sa n1 sc, .slice pa n2 pc] 40) := ⟨_, rfl⟩
  obtain ⟨hbB, hcl⟩ := box_three w wB _ _ _ _ _ _ _ _ _ _ hwB
  have HCL := hid hcl
  have HBB := hid hbB
  have KA := hid (ka.low hbB)
  have KB := hid (kb.low hbB)
  have TS := hid (ts.low hbB)
  have TP := hid (tp.low hbB)
  obtain ⟨ln, hln, el⟩ := pick1000 lt
  have HPK : Hid (∀ W, Calls Tryz.prog 56 #[.int .i64 lt, .int .i64 1000] W fun e w' => e = .returned (.int .i64 (ln : Int)) ∧ w' = W) := hid (fun W => by rw [← el]; exact pick_any lt 1000 W (by decide))
  have H1 : Hid (∀ W, Below wB.heap.size wB W → Calls Tryz.prog 7 #[.agg #[.int .u8 (la.kind : Int), St la.term, .int .i64 la.n, .slice aa la.kids.length ac], .int .i64 100] W fun e w' => e = .returned (.int .i64 (Lk.great 100 la : Int)) ∧ Below wB.heap.size wB w') := hid (fun W hW => (lsize_any 100 (by decide) da la _ W ra (KA.out.low hW)).mono (fun e w' ⟨h1, h2⟩ => ⟨h1, hW.trans (h2.mono hW.size)⟩))
  have H2 : Hid (∀ W, Below wB.heap.size wB W → Calls Tryz.prog 7 #[.agg #[.int .u8 (lb.kind : Int), St lb.term, .int .i64 lb.n, .slice ba lb.kids.length bc], .int .i64 100] W fun e w' => e = .returned (.int .i64 (Lk.great 100 lb : Int)) ∧ Below wB.heap.size wB w') := hid (fun W hW => (lsize_any 100 (by decide) db lb _ W rb (KB.out.low hW)).mono (fun e w' ⟨h1, h2⟩ => ⟨h1, hW.trans (h2.mono hW.size)⟩))
  have H3 : Hid (∀ W, Below wB.heap.size wB W → Calls Tryz.prog 19 #[.agg #[.slice sa n1 sc, .slice pa n2 pc], St msg] W fun e w' => LgE sg pr msg e ∧ Below wB.heap.size wB w') := hid (fun W hW => by
    have h := large_any sg pr msg sa pa sc pc W (by rw [← hn1]; exact TS.out.low hW) (by rw [← hn2]; exact TP.out.low hW) l1 l2 l3 l4 l5
    rw [← hn1, ← hn2] at h
    exact h.mono (fun e w' ⟨h1, h2⟩ => ⟨h1, hW.trans (h2.mono hW.size)⟩))
  have HOP : Hid (∀ W l a c d s v1 v2, Below wB.heap.size wB W → Kd (fun _ => True) W d (.slice a l.kids.length c) l.kids → Sw W s v1 v2 → Calls Tryz.prog 20 #[.agg (lcs l (.slice a l.kids.length c)), .agg #[v1, v2], St s.msg, .int .i64 s.after, .int .i64 s.age] W fun e w' => e = .returned (.bool (opRes l s)) ∧ Below wB.heap.size wB w') := hid (fun W l a c d s v1 v2 hW hk hs => (lopens_any d l _ s v1 v2 W hk hs).mono (fun e w' ⟨h1, h2⟩ => ⟨h1, hW.trans (h2.mono hW.size)⟩))
  have HSW : Hid (∀ W, Below wB.heap.size wB W → Sw W ⟨sg, pr, msg, af, ag⟩ (.slice sa n1 sc) (.slice pa n2 pc)) := hid (fun W hW => ⟨TS.out.low hW, TP.out.low hW, l1, l2⟩)
  have HX : Hid (∀ W, Below wB.heap.size wB W → Calls Tryz.prog 20 #[.agg #[.int .u8 (la.kind : Int), St la.term, .int .i64 la.n, .slice aa la.kids.length ac], .agg #[.slice sa n1 sc, .slice pa n2 pc], St msg, .int .i64 af, .int .i64 ag] W fun e w' => e = .returned (.bool (opRes la ⟨sg, pr, msg, af, ag⟩)) ∧ Below wB.heap.size wB w') := hid (fun W hW => HOP.out W la aa ac da ⟨sg, pr, msg, af, ag⟩ _ _ hW ((KA.out.base (fun _ _ => trivial)).low hW) (HSW.out W hW))
  have HY : Hid (∀ W, Below wB.heap.size wB W → Calls Tryz.prog 20 #[.agg #[.int .u8 (lb.kind : Int), St lb.term, .int .i64 lb.n, .slice ba lb.kids.length bc], .agg #[.slice sa n1 sc, .slice pa n2 pc], St msg, .int .i64 af, .int .i64 ag] W fun e w' => e = .returned (.bool (opRes lb ⟨sg, pr, msg, af, ag⟩)) ∧ Below wB.heap.size wB w') := hid (fun W hW => HOP.out W lb ba bc db ⟨sg, pr, msg, af, ag⟩ _ _ hW ((KB.out.base (fun _ _ => trivial)).low hW) (HSW.out W hW))
  have HWK2 : Hid (∀ W, Below wB.heap.size wB W → Calls Tryz.prog 15 #[] W fun e w' => e = .returned (.bool true) ∧ Below W.heap.size W w') := hid (fun W hW => works_any W ((hp.below hbB).below hW))
  have HSM : Hid (Lk.great 100 la ≤ 100 → Lk.great 100 lb ≤ 100 → Lk.smalls [la, lb] = true) := hid (fun h1 h2 => by rw [Lk.smalls, Lk.smalls, Lk.great_small (by decide) la h1, Lk.great_small (by decide) lb h2]; rfl)
  have HPR := hid (op_pair (a := la) (b := lb) ⟨sg, pr, msg, af, ag⟩)
  have HOM : Hid (opRes la ⟨sg, pr, msg, af, ag⟩ = true → sg.length + 1 ≤ 16 → pr.length + 1 ≤ 16 → opRes la ⟨sg ++ [mt], pr ++ [mt], msg, af + (ln : Int), ag + (ln : Int)⟩ = true) := hid (fun h a b => op_more (by omega) h a b)
  have HL := hid (show la.kids.length ≤ 140737488355328 ∧ lb.kids.length ≤ 140737488355328 from ⟨ka.shape.1, kb.shape.1⟩)
  have RA := hid ra
  have RB := hid rb
  have HN1 := hid hn1
  have HN2 := hid hn2
  have HLN := hid hln
  have HAF := hid haf
  have HAG := hid hag
  generalize opRes la ⟨sg, pr, msg, af, ag⟩ = RX at *
  generalize opRes lb ⟨sg, pr, msg, af, ag⟩ = RY at *
  clear hcl hbB ka kb ra rb hp ts tp l1 l2 l3 l4 l5 hln el hn1 hn2 haf hag
  obtain ⟨⟨q0, q1, q2, q3⟩, ⟨r0, r1, r2, r3⟩, s0, s1⟩ := HCL.out wB (Below.refl _ _)
  go_enter Tryz.func31, Tryz.ntmps31
  rw [hwB] at q0 q1 q2 q3 r0 r1 r2 r3 s0 s1
  go_wp2_with fail
  rw [← hwB]
  clear q0 q1 q2 q3 r0 r1 r2 r3 s0 s1 hwB
  refine (H1.out _ (Below.refl _ _)).mono ?_
  rintro e w1 ⟨rfl, hb1⟩
  have HD1 := hid hb1
  obtain ⟨⟨q0, q1, q2, q3⟩, ⟨r0, r1, r2, r3⟩, s0, s1⟩ := HCL.out w1 hb1
  clear hb1 H1
  generalize Lk.great 100 la = ga at *
  generalize Lk.great 100 lb = gb at *
  by_cases hga : (100 : Int) < (ga : Int)
  · have HZ := hid (HBB.out.trans (HD1.out.mono HBB.out.size))
    go_wp2_with fail
    go_ret
    exact ⟨rfl, HZ.out⟩
  · go_wp2_with fail
    refine (H2.out _ HD1.out).mono ?_
    rintro e w2 ⟨rfl, hb2⟩
    have HD2 := hid hb2
    clear q0 q1 q2 q3 r0 r1 r2 r3 s0 s1 hb2 H2 HD1
    obtain ⟨⟨q0, q1, q2, q3⟩, ⟨r0, r1, r2, r3⟩, s0, s1⟩ := HCL.out w2 HD2.out
    by_cases hgb : (100 : Int) < (gb : Int)
    · have HZ := hid (HBB.out.trans (HD2.out.mono HBB.out.size))
      go_wp2_with fail
      go_ret
      exact ⟨rfl, HZ.out⟩
    · go_wp2_with fail
      refine (H3.out _ HD2.out).mono ?_
      rintro e w3 ⟨hlg, hb3⟩
      have HD3 := hid hb3
      clear q0 q1 q2 q3 r0 r1 r2 r3 s0 s1 hb3 H3 HD2
      obtain ⟨⟨q0, q1, q2, q3⟩, ⟨r0, r1, r2, r3⟩, s0, s1⟩ := HCL.out w3 HD3.out
      rcases hlg with ⟨rfl, hsm⟩ | rfl
      rotate_left
      · have HZ := hid (HBB.out.trans (HD3.out.mono HBB.out.size))
        go_wp2_with fail
        go_ret
        exact ⟨rfl, HZ.out⟩
      · by_cases hmt : (1000 : Int) < (mt.length : Int)
        · have HZ := hid (HBB.out.trans (HD3.out.mono HBB.out.size))
          go_wp2_with fail
          go_ret
          exact ⟨rfl, HZ.out⟩
        · by_cases haf : (1099511627776 : Int) < af
          · have HZ := hid (HBB.out.trans (HD3.out.mono HBB.out.size))
            go_wp2_with fail
            go_ret
            exact ⟨rfl, HZ.out⟩
          · by_cases hag : (1099511627776 : Int) < ag
            · have HZ := hid (HBB.out.trans (HD3.out.mono HBB.out.size))
              go_wp2_with fail
              go_ret
              exact ⟨rfl, HZ.out⟩
            · have HSML := hid hsm
              have hsmalls := HSM.out (by omega) (by omega)
              have HSS := hid hsmalls
              have w1a : IntKind.i64.wrap (af + (ln : Int)) = af + (ln : Int) := by rw [IntKind.wrap_i64]; have := HAF.out; have := HLN.out; omega
              have w1b : IntKind.i64.wrap (ag + (ln : Int)) = ag + (ln : Int) := by rw [IntKind.wrap_i64]; have := HAG.out; have := HLN.out; omega
              clear hsm hsmalls HSM
              go_wp2_with fail
              refine (HPK.out _).mono ?_
              rintro e w4 ⟨rfl, rfl⟩
              clear q0 q1 q2 q3 r0 r1 r2 r3 s0 s1 HPK
              go_upto_region 4 with fail
              go_cut [17, 18] from 51 to 62 (fun v17 v18 wc => v17 = .bool RX ∧ v18 = .bool RY ∧ Below wB.heap.size wB wc)
              case first =>
                refine wp_region_held (S := fun W : World => (W.cell? ⟨w.heap.size, 0, none⟩ = some (.int .u8 (la.kind : Int)) ∧ W.cell? ⟨w.heap.size, 1, none⟩ = some (St la.term) ∧ W.cell? ⟨w.heap.size, 2, none⟩ = some (.int .i64 la.n) ∧ W.cell? ⟨w.heap.size, 3, none⟩ = some (.slice aa la.kids.length ac)) ∧ (W.cell? ⟨w.heap.size + 1, 0, none⟩ = some (.int .u8 (lb.kind : Int)) ∧ W.cell? ⟨w.heap.size + 1, 1, none⟩ = some (St lb.term) ∧ W.cell? ⟨w.heap.size + 1, 2, none⟩ = some (.int .i64 lb.n) ∧ W.cell? ⟨w.heap.size + 1, 3, none⟩ = some (.slice ba lb.kids.length bc)) ∧ W.cell? ⟨w.heap.size + 1 + 1, 0, none⟩ = some (.slice sa n1 sc) ∧ W.cell? ⟨w.heap.size + 1 + 1, 1, none⟩ = some (.slice pa n2 pc)) (by kernel_rfl) ?_
                have hs0 := HCL.out _ (HD3.out.trans ((below_dr w4).mono HD3.out.size))
                refine wpAnyH_take (i := 0) (oi := ko0) (v := .agg #[.int .u8 (la.kind : Int), St la.term, .int .i64 la.n, .slice aa la.kids.length ac]) rfl (by kernel_rfl) (by kernel_rfl) (by kernel_rfl) (fun _ _ _ h => h) (y_load rfl 25 (.tmp 8) rfl (w.heap.size) 0 rfl (fun w hw => lkload25 hw.1.1 hw.1.2.1 hw.1.2.2.1 hw.1.2.2.2)) hs0 ?_
                simp only [Act.put, ko0, List.setIfInBounds_toArray, List.set_cons_zero, List.set_cons_succ]
                refine wpAnyH_take (i := 1) (oi := ko1) (v := .agg #[.slice sa n1 sc, .slice pa n2 pc]) rfl (by kernel_rfl) (by kernel_rfl) (by kernel_rfl) (fun _ _ _ h => h) (y_load rfl 40 (.tmp 10) rfl (w.heap.size + 1 + 1) 0 rfl (fun w hw => lkload44 hw.2.2.1 hw.2.2.2)) hs0 ?_
                simp only [Act.put, ko1, List.setIfInBounds_toArray, List.set_cons_zero, List.set_cons_succ]
                refine wpAnyH_take (i := 2) (oi := ko2) (v := St msg) rfl (by kernel_rfl) (by kernel_rfl) (by kernel_rfl) (fun _ _ _ h => h) (y_all rfl (fun _ => rfl)) hs0 ?_
                simp only [Act.put, ko2, List.setIfInBounds_toArray, List.set_cons_zero, List.set_cons_succ]
                refine wpAnyH_take (i := 3) (oi := ko3) (v := .int .i64 af) rfl (by kernel_rfl) (by kernel_rfl) (by kernel_rfl) (fun _ _ _ h => h) (y_all rfl (fun _ => rfl)) hs0 ?_
                simp only [Act.put, ko3, List.setIfInBounds_toArray, List.set_cons_zero, List.set_cons_succ]
                refine wpAnyH_take (i := 4) (oi := ko4) (v := .int .i64 ag) rfl (by kernel_rfl) (by kernel_rfl) (by kernel_rfl) (fun _ _ _ h => h) (y_all rfl (fun _ => rfl)) hs0 ?_
                simp only [Act.put, ko4, List.setIfInBounds_toArray, List.set_cons_zero, List.set_cons_succ]
                refine wpAnyH_take (i := 6) (oi := ko6) (v := .agg #[.int .u8 (lb.kind : Int), St lb.term, .int .i64 lb.n, .slice ba lb.kids.length bc]) rfl (by kernel_rfl) (by kernel_rfl) (by kernel_rfl) (fun _ _ _ h => h) (y_load rfl 25 (.tmp 9) rfl (w.heap.size + 1) 0 rfl (fun w hw => lkload25 hw.2.1.1 hw.2.1.2.1 hw.2.1.2.2.1 hw.2.1.2.2.2)) hs0 ?_
                simp only [Act.put, ko6, List.setIfInBounds_toArray, List.set_cons_zero, List.set_cons_succ]
                refine wpAnyH_take (i := 7) (oi := ko7) (v := .agg #[.slice sa n1 sc, .slice pa n2 pc]) rfl (by kernel_rfl) (by kernel_rfl) (by kernel_rfl) (fun _ _ _ h => h) (y_load rfl 40 (.tmp 10) rfl (w.heap.size + 1 + 1) 0 rfl (fun w hw => lkload44 hw.2.2.1 hw.2.2.2)) hs0 ?_
                simp only [Act.put, ko7, List.setIfInBounds_toArray, List.set_cons_zero, List.set_cons_succ]
                refine wpAnyH_take (i := 8) (oi := ko8) (v := St msg) rfl (by kernel_rfl) (by kernel_rfl) (by kernel_rfl) (fun _ _ _ h => h) (y_all rfl (fun _ => rfl)) hs0 ?_
                simp only [Act.put, ko8, List.setIfInBounds_toArray, List.set_cons_zero, List.set_cons_succ]
                refine wpAnyH_take (i := 9) (oi := ko9) (v := .int .i64 af) rfl (by kernel_rfl) (by kernel_rfl) (by kernel_rfl) (fun _ _ _ h => h) (y_all rfl (fun _ => rfl)) hs0 ?_
                simp only [Act.put, ko9, List.setIfInBounds_toArray, List.set_cons_zero, List.set_cons_succ]
                refine wpAnyH_take (i := 10) (oi := ko10) (v := .int .i64 ag) rfl (by kernel_rfl) (by kernel_rfl) (by kernel_rfl) (fun _ _ _ h => h) (y_all rfl (fun _ => rfl)) hs0 ?_
                simp only [Act.put, ko10, List.setIfInBounds_toArray, List.set_cons_zero, List.set_cons_succ]
                refine wpAnyH_all (rs := [5]) (by kernel_rfl) (by simp) (all1 ?_)
                refine op_call (o := ko5) (f := 20) (args := #[.agg #[.int .u8 (la.kind : Int), St la.term, .int .i64 la.n, .slice aa la.kids.length ac], .agg #[.slice sa n1 sc, .slice pa n2 pc], St msg, .int .i64 af, .int .i64 ag]) rfl rfl (by simp only [ko5]; go_simp) (call_one (HX.out _ (HD3.out.trans ((below_dr w4).mono HD3.out.size)))) ?_
                rintro v0 x1 ⟨rfl, hb⟩
                have HX1 := hid hb
                clear hs0 hb
                have hs0 := HCL.out x1 HX1.out
                refine ⟨hs0, ?_⟩
                simp only [Act.put, ko5, List.setIfInBounds_toArray, List.set_cons_zero, List.set_cons_succ]
                refine wpAnyH_all (rs := [11]) (by kernel_rfl) (by simp) (all1 ?_)
                refine op_call (o := ko11) (f := 20) (args := #[.agg #[.int .u8 (lb.kind : Int), St lb.term, .int .i64 lb.n, .slice ba lb.kids.length bc], .agg #[.slice sa n1 sc, .slice pa n2 pc], St msg, .int .i64 af, .int .i64 ag]) rfl rfl (by simp only [ko11]; go_simp) (call_one (HY.out _ HX1.out)) ?_
                rintro v0 W4 ⟨rfl, hb⟩
                have HX2 := hid hb
                clear hs0 hb
                have hs0 := HCL.out W4 HX2.out
                refine ⟨hs0, ?_⟩
                simp only [Act.put, ko11, List.setIfInBounds_toArray, List.set_cons_zero, List.set_cons_succ]
                refine wpAnyH_take (i := 12) (oi := ko12) (v := .bool RX) rfl (by kernel_rfl) (by kernel_rfl) (by kernel_rfl) (fun _ _ _ h => h) (y_all rfl (fun _ => rfl)) hs0 ?_
                simp only [Act.put, ko12, List.setIfInBounds_toArray, List.set_cons_zero, List.set_cons_succ]
                refine wpAnyH_take (i := 13) (oi := ko13) (v := .bool RY) rfl (by kernel_rfl) (by kernel_rfl) (by kernel_rfl) (fun _ _ _ h => h) (y_all rfl (fun _ => rfl)) hs0 ?_
                simp only [Act.put, ko13, List.setIfInBounds_toArray, List.set_cons_zero, List.set_cons_succ]
                refine wpAnyH_done (by kernel_rfl) ?_ _
                clear hs0
                go_wp2_with fail
                go_meet
                case rel => exact ⟨rfl, rfl, HX2.out⟩
              case rest =>
                obtain ⟨rfl, rfl, hbx⟩ := hcut
                obtain ⟨W4, hW4⟩ : ∃ W4, W4 = wc := ⟨_, rfl⟩
                subst hW4
                have HX2 := hid hbx
                clear HX HY hbx
                obtain ⟨w6, w9, w11, w14, a1, a2, p1, p2, k1, k2, m1, m2, hmv⟩ := more_wit HN1.out HN2.out (TS.out.low HX2.out) (TP.out.low HX2.out) (by have := HSML.out.1; have := HN1.out; omega) (by have := HSML.out.2.1; have := HN2.out; omega) mt
                have MV := hid hmv
                have c5 := (cell_of_heap (heap_alloc_new W4 (.cells #[.slice none 0 0, .slice none 0 0] 40)) 0).trans rfl
                have d5 := (HCL.out _ (HX2.out.trans ((below_al W4 (.cells #[.slice none 0 0, .slice none 0 0] 40)).mono HX2.out.size))).2.2.1
                have c6 := (cell_of_heap hmv.v6 0).trans rfl
                have f6 := frozen_of_heap hmv.v6 0
                have v7 := heap_setCell_same hmv.v6 0 (.slice a1 n1 k1)
                have c7 := (cell_of_heap v7 0).trans rfl
                have c9 := (cell_of_heap hmv.v9 0).trans rfl
                have f9 := frozen_of_heap hmv.v9 0
                have v10 := heap_setCell_same hmv.v9 0 (.slice a2 (n1 + 1) k2)
                have c10 := (cell_of_heap v10 1).trans rfl
                have d10 := (HCL.out _ (HX2.out.trans (hmv.b10.mono HX2.out.size))).2.2.2
                have c11 := (cell_of_heap hmv.v11 1).trans rfl
                have f11 := frozen_of_heap hmv.v11 1
                have v12 := heap_setCell_same hmv.v11 1 (.slice p1 n2 m1)
                have c12 := (cell_of_heap v12 1).trans rfl
                have c14 := (cell_of_heap hmv.v14 1).trans rfl
                have f14 := frozen_of_heap hmv.v14 1
                have c15 := (cell_of_heap hmv.box 0).trans rfl
                have c16 := (cell_of_heap hmv.box 1).trans rfl
                clear hmv v7 v10 v12
                go_upto_region 10 with (first | (at_builtin; refine wpList_append_run rfl (.tmp 64) (.tmp 66) 32 32 rfl _ _ _ _ rfl rfl MV.out.r1 ?_) | (at_builtin; refine wpList_append_run rfl (.tmp 70) (.tmp 72) 32 32 rfl _ _ _ _ rfl rfl MV.out.r2 ?_) | (at_builtin; refine wpList_append_run rfl (.tmp 76) (.tmp 78) 32 32 rfl _ _ _ _ rfl rfl MV.out.r3 ?_) | (at_builtin; refine wpList_append_run rfl (.tmp 82) (.tmp 84) 32 32 rfl _ _ _ _ rfl rfl MV.out.r4 ?_))
                obtain ⟨W15, hW15⟩ : ∃ W15, W15 = w14.setCell ⟨W4.heap.size, 1, none⟩ (.slice p2 (n2 + 1) m2) := ⟨_, rfl⟩
                rw [← hW15] at c15 c16
                rw [← hW15]
                have hb15 : Below wB.heap.size wB W15 := by rw [hW15]; exact HX2.out.trans (MV.out.bel.mono HX2.out.size)
                have HB15 := hid hb15
                have T1 : Hid (Texts W15 (.slice a2 (n1 + 1) k2) (sg ++ [mt])) := hid (by rw [hW15]; exact MV.out.sgs)
                have T2 : Hid (Texts W15 (.slice p2 (n2 + 1) m2) (pr ++ [mt])) := hid (by rw [hW15]; exact MV.out.prs)
                clear c5 d5 c6 f6 c7 c9 f9 c10 d10 c11 f11 c12 c14 f14 hW15 MV
                obtain ⟨F, hF⟩ : ∃ F : Bool, F = (decide ((n1 : Int) + 1 ≤ 16) && decide ((n2 : Int) + 1 ≤ 16)) := ⟨_, rfl⟩
                have HF := hid hF
                clear hF
                go_cut [20] from 87 to 96 (fun v20 wc => v20 = .bool F ∧ wc = W15)
                case first =>
                  by_cases f1 : (n1 : Int) + 1 ≤ 16
                  · by_cases f2 : (n2 : Int) + 1 ≤ 16
                    · go_wp2_with fail
                      go_meet
                      case rel => exact ⟨by rw [HF.out, decide_eq_true f1, decide_eq_true f2]; rfl, rfl⟩
                    · go_wp2_with fail
                      go_meet
                      case rel => exact ⟨by rw [HF.out, decide_eq_true f1, decide_eq_false (show ¬ (n2 : Int) + 1 ≤ 16 by omega)]; rfl, rfl⟩
                  · go_wp2_with fail
                    go_meet
                    case rel => exact ⟨by rw [HF.out, decide_eq_false (show ¬ (n1 : Int) + 1 ≤ 16 by omega)]; rfl, rfl⟩
                case rest =>
                  obtain ⟨rfl, hwc⟩ := hcut
                  subst hwc
                  obtain ⟨⟨q0, q1, q2, q3⟩, ⟨r0, r1, r2, r3⟩, s0, s1⟩ := HCL.out _ hb15
                  clear hb15
                  go_upto_region 11 with fail
                  go_cut [113] from 97 to 113 (fun v113 wx => v113 = .bool false ∧ Below wB.heap.size wB wx)
                  case first =>
                    cases RX with
                    | false =>
                      go_wp2_with fail
                      go_meet
                      case rel => exact ⟨rfl, HB15.out⟩
                    | true =>
                      cases F with
                      | false =>
                        go_wp2_with fail
                        go_meet
                        case rel => exact ⟨rfl, HB15.out⟩
                      | true =>
                        have HC : Hid (Calls Tryz.prog 20 #[.agg #[.int .u8 (la.kind : Int), St la.term, .int .i64 la.n, .slice aa la.kids.length ac], .agg #[.slice a2 (n1 + 1) k2, .slice p2 (n2 + 1) m2], St msg, .int .i64 (af + (ln : Int)), .int .i64 (ag + (ln : Int))] wc fun e w' => e = .returned (.bool true) ∧ Below wB.heap.size wB w') := hid (by
                          have hf := HF.out
                          simp at hf
                          have h1 := HN1.out
                          have h2 := HN2.out
                          have h3 := HSML.out.1
                          have h4 := HSML.out.2.1
                          have h := HOP.out wc la aa ac da ⟨sg ++ [mt], pr ++ [mt], msg, af + (ln : Int), ag + (ln : Int)⟩ (.slice a2 (n1 + 1) k2) (.slice p2 (n2 + 1) m2) HB15.out ((KA.out.base (fun _ _ => trivial)).low HB15.out) ⟨T1.out, T2.out, by simp; omega, by simp; omega⟩
                          rw [HOM.out rfl (by omega) (by omega)] at h
                          exact h)
                        go_wp2_with fail
                        refine HC.out.mono ?_
                        rintro e wx ⟨rfl, hb⟩
                        have HBX := hid hb
                        clear hb HC
                        go_wp2_with fail
                        go_meet
                        case rel => exact ⟨rfl, HBX.out⟩
                  case rest =>
                    obtain ⟨rfl, hb⟩ := hcut
                    obtain ⟨wq, hwq⟩ : ∃ wq, wq = wc := ⟨_, rfl⟩
                    subst hwq
                    have HBQ := hid hb
                    clear hb q0 q1 q2 q3 r0 r1 r2 r3 s0 s1 c15 c16 w1a w1b T1 T2 HOM HF HB15
                    go_wp2_with fail
                    have HK13 : Hid (∀ W g, Below wq.heap.size wq W → W.heap[g]? = some (.cells #[.int .u8 (la.kind : Int), St la.term, .int .i64 la.n, .slice aa la.kids.length ac, .int .u8 (lb.kind : Int), St lb.term, .int .i64 lb.n, .slice ba lb.kids.length bc] 25 (0, 0)) → Kd (fun _ => True) W (max da db + 1) (.slice (some ⟨g, 0, none⟩) 2 2) [la, lb]) := hid (fun W g hW hg => kd_two hg trivial RA.out RB.out (((KA.out.base (fun _ _ => trivial)).low (HBQ.out.trans (hW.mono HBQ.out.size))).more (Nat.le_max_left _ _)) (((KB.out.base (fun _ _ => trivial)).low (HBQ.out.trans (hW.mono HBQ.out.size))).more (Nat.le_max_right _ _)))
                    refine reg13 (D := max da db + 1) (ks := [la, lb]) (ka := la.kind) (kb := lb.kind) (ta := la.term) (tb := lb.term) (na := la.n) (nb := lb.n) (aa := aa) (ba := ba) (ma := la.kids.length) (ca := ac) (mb := lb.kids.length) (cb := bc) (by simp) rfl rfl (fun W hW => ⟨(HCL.out W (HBQ.out.trans (hW.mono HBQ.out.size))).1, (HCL.out W (HBQ.out.trans (hW.mono HBQ.out.size))).2.1⟩) (fun W g hW hg => ?_) (fun W g hW hg => ?_) ?_
                    · refine (mk_all _ _ _ W (HK13.out W g hW hg) HSS.out (by simp)).mono (fun e w' ⟨v', h1, h2, h3⟩ => ?_)
                      obtain ⟨_, a, c, rfl⟩ := h2.shape
                      exact ⟨_, h1, a, c, rfl, h2.base (fun h hh => by omega), h3⟩
                    · refine (mk_any _ _ _ W (HK13.out W g hW hg) HSS.out (by simp)).mono (fun e w' ⟨v', h1, h2, h3⟩ => ?_)
                      obtain ⟨_, a, c, rfl⟩ := h2.shape
                      exact ⟨_, h1, a, c, rfl, h2.base (fun h hh => by omega), h3⟩
                    intro s wz pp qq a5 c5 a6 c6 hfin
                    have HFN := hid hfin
                    have hbz := HBQ.out.trans (hfin.bel.mono HBQ.out.size)
                    have HBZ := hid hbz
                    have HCZ : Hid (∀ W, Below wz.heap.size wz W → (W.cell? ⟨w.heap.size, 0, none⟩ = some (.int .u8 (la.kind : Int)) ∧ W.cell? ⟨w.heap.size, 1, none⟩ = some (St la.term) ∧ W.cell? ⟨w.heap.size, 2, none⟩ = some (.int .i64 la.n) ∧ W.cell? ⟨w.heap.size, 3, none⟩ = some (.slice aa la.kids.length ac)) ∧ (W.cell? ⟨w.heap.size + 1, 0, none⟩ = some (.int .u8 (lb.kind : Int)) ∧ W.cell? ⟨w.heap.size + 1, 1, none⟩ = some (St lb.term) ∧ W.cell? ⟨w.heap.size + 1, 2, none⟩ = some (.int .i64 lb.n) ∧ W.cell? ⟨w.heap.size + 1, 3, none⟩ = some (.slice ba lb.kids.length bc)) ∧ (W.cell? ⟨w.heap.size + 1 + 1, 0, none⟩ = some (.slice sa n1 sc) ∧ W.cell? ⟨w.heap.size + 1 + 1, 1, none⟩ = some (.slice pa n2 pc)) ∧ (W.cell? ⟨pp, 0, none⟩ = some (.int .u8 5) ∧ W.cell? ⟨pp, 1, none⟩ = some (.string ⟨#[]⟩) ∧ W.cell? ⟨pp, 2, none⟩ = some (.int .i64 0) ∧ W.cell? ⟨pp, 3, none⟩ = some (.slice a5 2 c5)) ∧ W.cell? ⟨qq, 0, none⟩ = some (.int .u8 6) ∧ W.cell? ⟨qq, 1, none⟩ = some (.string ⟨#[]⟩) ∧ W.cell? ⟨qq, 2, none⟩ = some (.int .i64 0) ∧ W.cell? ⟨qq, 3, none⟩ = some (.slice a6 2 c6)) := hid (fun W hW => by
                      obtain ⟨h1, h2, h3⟩ := HCL.out W (HBZ.out.trans (hW.mono HBZ.out.size))
                      have k1 := (hW.block _ (lt_of_heap HFN.out.pb)).trans HFN.out.pb
                      have k2 := (hW.block _ (lt_of_heap HFN.out.qb)).trans HFN.out.qb
                      exact ⟨h1, h2, h3, ⟨(cell_of_heap k1 0).trans rfl, (cell_of_heap k1 1).trans rfl, (cell_of_heap k1 2).trans rfl, (cell_of_heap k1 3).trans rfl⟩, (cell_of_heap k2 0).trans rfl, (cell_of_heap k2 1).trans rfl, (cell_of_heap k2 2).trans rfl, (cell_of_heap k2 3).trans rfl⟩)
                    have HR5 : Hid (∀ W, Below wz.heap.size wz W → Calls Tryz.prog 10 #[.agg (l5 a5 c5)] W fun e w' => e = .returned (.bool (Lk.right (.mk 5 [] 0 [la, lb]))) ∧ Below wz.heap.size wz w') := hid (fun W hW => (lright_any _ (.mk 5 [] 0 [la, lb]) _ W (HFN.out.pk.low hW)).mono (fun e w' ⟨h1, h2⟩ => ⟨h1, hW.trans (h2.mono hW.size)⟩))
                    have HR6 : Hid (∀ W, Below wz.heap.size wz W → Calls Tryz.prog 10 #[.agg (l6 a6 c6)] W fun e w' => e = .returned (.bool (Lk.right (.mk 5 [] 0 [la, lb]))) ∧ Below wz.heap.size wz w') := hid (fun W hW => by
                      have h := lright_any _ (.mk 6 [] 0 [la, lb]) _ W (HFN.out.qk.low hW)
                      rw [← Lk.right_pair] at h
                      exact h.mono (fun e w' ⟨h1, h2⟩ => ⟨h1, hW.trans (h2.mono hW.size)⟩))
                    have HRA : Hid (Lk.right (.mk 5 [] 0 [la, lb]) = true → ∀ W, Below wz.heap.size wz W → Calls Tryz.prog 10 #[.agg #[.int .u8 (la.kind : Int), St la.term, .int .i64 la.n, .slice aa la.kids.length ac]] W fun e w' => e = .returned (.bool true) ∧ Below wz.heap.size wz w') := hid (fun hr W hW => by
                      have h := lright_any da la _ W (KA.out.low (HBZ.out.trans (hW.mono HBZ.out.size)))
                      rw [(Lk.right_of_pair hr).1] at h
                      exact h.mono (fun e w' ⟨h1, h2⟩ => ⟨h1, hW.trans (h2.mono hW.size)⟩))
                    have HRB : Hid (Lk.right (.mk 5 [] 0 [la, lb]) = true → ∀ W, Below wz.heap.size wz W → Calls Tryz.prog 10 #[.agg #[.int .u8 (lb.kind : Int), St lb.term, .int .i64 lb.n, .slice ba lb.kids.length bc]] W fun e w' => e = .returned (.bool true) ∧ Below wz.heap.size wz w') := hid (fun hr W hW => by
                      have h := lright_any db lb _ W (KB.out.low (HBZ.out.trans (hW.mono HBZ.out.size)))
                      rw [(Lk.right_of_pair hr).2] at h
                      exact h.mono (fun e w' ⟨h1, h2⟩ => ⟨h1, hW.trans (h2.mono hW.size)⟩))
                    have HO5 : Hid (Lk.right (.mk 5 [] 0 [la, lb]) = true → ∀ W, Below wz.heap.size wz W → Calls Tryz.prog 20 #[.agg (l5 a5 c5), .agg #[.slice sa n1 sc, .slice pa n2 pc], St msg, .int .i64 af, .int .i64 ag] W fun e w' => e = .returned (.bool (RX && RY)) ∧ Below wz.heap.size wz w') := hid (fun hr W hW => by
                      have h := lopens_any _ (.mk 5 [] 0 [la, lb]) _ ⟨sg, pr, msg, af, ag⟩ _ _ W (HFN.out.pk.low hW) (HSW.out W (HBZ.out.trans (hW.mono HBZ.out.size)))
                      rw [(HPR.out hr).1] at h
                      exact h.mono (fun e w' ⟨h1, h2⟩ => ⟨h1, hW.trans (h2.mono hW.size)⟩))
                    have HO6 : Hid (Lk.right (.mk 5 [] 0 [la, lb]) = true → ∀ W, Below wz.heap.size wz W → Calls Tryz.prog 20 #[.agg (l6 a6 c6), .agg #[.slice sa n1 sc, .slice pa n2 pc], St msg, .int .i64 af, .int .i64 ag] W fun e w' => e = .returned (.bool (RX || RY)) ∧ Below wz.heap.size wz w') := hid (fun hr W hW => by
                      have h := lopens_any _ (.mk 6 [] 0 [la, lb]) _ ⟨sg, pr, msg, af, ag⟩ _ _ W (HFN.out.qk.low hW) (HSW.out W (HBZ.out.trans (hW.mono HBZ.out.size)))
                      rw [(HPR.out hr).2] at h
                      exact h.mono (fun e w' ⟨h1, h2⟩ => ⟨h1, hW.trans (h2.mono hW.size)⟩))
                    have HWZ : Hid (∀ W, Below wz.heap.size wz W → Calls Tryz.prog 15 #[] W fun e w' => e = .returned (.bool true) ∧ Below wz.heap.size wz w') := hid (fun W hW => (HWK2.out W (HBZ.out.trans (hW.mono HBZ.out.size))).mono (fun e w' ⟨h1, h2⟩ => ⟨h1, hW.trans (h2.mono hW.size)⟩))
                    generalize Lk.right (.mk 5 [] 0 [la, lb]) = RR at *
                    clear hfin hbz HPR HOP HSW HWK2 HK13 HFN KA KB TS TP
                    simp only [puts, List.foldl, Act.put, List.setIfInBounds_toArray, List.set_cons_zero, List.set_cons_succ]
                    obtain ⟨⟨q0, q1, q2, q3⟩, _, ⟨s0, s1⟩, ⟨y0, y1, y2, y3⟩, z0, z1, z2, z3⟩ := HCZ.out wz (Below.refl _ _)
                    go_upto_region 14 with fail
                    go_cut [149] from 122 to 149 (fun v149 wx => v149 = .bool false ∧ Below wz.heap.size wz wx)
                    case first =>
                      cases RR with
                      | false =>
                        go_wp2_with fail
                        refine (HR5.out _ (Below.refl _ _)).mono ?_
                        rintro e x1 ⟨rfl, hb⟩
                        have HB1 := hid hb
                        clear hb
                        go_wp2_with fail
                        go_meet
                        case rel => exact ⟨rfl, HB1.out⟩
                      | true =>
                        have HP5 := hid (HO5.out rfl)
                        have HP6 := hid (HO6.out rfl)
                        clear HO5 HO6
                        go_wp2_with fail
                        refine (HR5.out _ (Below.refl _ _)).mono ?_
                        rintro e x1 ⟨rfl, hb1⟩
                        have HB1 := hid hb1
                        clear hb1 q0 q1 q2 q3 s0 s1 y0 y1 y2 y3 z0 z1 z2 z3
                        obtain ⟨⟨q0, q1, q2, q3⟩, _, ⟨s0, s1⟩, ⟨y0, y1, y2, y3⟩, z0, z1, z2, z3⟩ := HCZ.out x1 HB1.out
                        cases RX with
                        | false =>
                          cases RY with
                          | false =>
                            go_wp2_with fail
                            refine (HP5.out _ HB1.out).mono ?_
                            rintro e x2 ⟨rfl, hb2⟩
                            have HB2 := hid hb2
                            clear hb2 q0 q1 q2 q3 s0 s1 y0 y1 y2 y3 z0 z1 z2 z3
                            obtain ⟨⟨q0, q1, q2, q3⟩, _, ⟨s0, s1⟩, ⟨y0, y1, y2, y3⟩, z0, z1, z2, z3⟩ := HCZ.out x2 HB2.out
                            go_wp2_with fail
                            refine (HP6.out _ HB2.out).mono ?_
                            rintro e x3 ⟨rfl, hb3⟩
                            have HB3 := hid hb3
                            clear hb3
                            go_wp2_with fail
                            go_meet
                            case rel => exact ⟨rfl, HB3.out⟩
                          | true =>
                            go_wp2_with fail
                            refine (HP5.out _ HB1.out).mono ?_
                            rintro e x2 ⟨rfl, hb2⟩
                            have HB2 := hid hb2
                            clear hb2 q0 q1 q2 q3 s0 s1 y0 y1 y2 y3 z0 z1 z2 z3
                            obtain ⟨⟨q0, q1, q2, q3⟩, _, ⟨s0, s1⟩, ⟨y0, y1, y2, y3⟩, z0, z1, z2, z3⟩ := HCZ.out x2 HB2.out
                            go_wp2_with fail
                            refine (HP6.out _ HB2.out).mono ?_
                            rintro e x3 ⟨rfl, hb3⟩
                            have HB3 := hid hb3
                            clear hb3
                            go_wp2_with fail
                            go_meet
                            case rel => exact ⟨rfl, HB3.out⟩
                        | true =>
                          cases RY with
                          | false =>
                            go_wp2_with fail
                            refine (HP5.out _ HB1.out).mono ?_
                            rintro e x2 ⟨rfl, hb2⟩
                            have HB2 := hid hb2
                            clear hb2 q0 q1 q2 q3 s0 s1 y0 y1 y2 y3 z0 z1 z2 z3
                            obtain ⟨⟨q0, q1, q2, q3⟩, _, ⟨s0, s1⟩, ⟨y0, y1, y2, y3⟩, z0, z1, z2, z3⟩ := HCZ.out x2 HB2.out
                            go_wp2_with fail
                            refine (HP6.out _ HB2.out).mono ?_
                            rintro e x3 ⟨rfl, hb3⟩
                            have HB3 := hid hb3
                            clear hb3
                            go_wp2_with fail
                            go_meet
                            case rel => exact ⟨rfl, HB3.out⟩
                          | true =>
                            go_wp2_with fail
                            refine (HP5.out _ HB1.out).mono ?_
                            rintro e x2 ⟨rfl, hb2⟩
                            have HB2 := hid hb2
                            clear hb2 q0 q1 q2 q3 s0 s1 y0 y1 y2 y3 z0 z1 z2 z3
                            obtain ⟨⟨q0, q1, q2, q3⟩, _, ⟨s0, s1⟩, ⟨y0, y1, y2, y3⟩, z0, z1, z2, z3⟩ := HCZ.out x2 HB2.out
                            go_wp2_with fail
                            refine (HP6.out _ HB2.out).mono ?_
                            rintro e x3 ⟨rfl, hb3⟩
                            have HB3 := hid hb3
                            clear hb3
                            go_wp2_with fail
                            go_meet
                            case rel => exact ⟨rfl, HB3.out⟩
                    case rest =>
                      obtain ⟨rfl, hb⟩ := hcut
                      obtain ⟨wv, hwv⟩ : ∃ wv, wv = wc := ⟨_, rfl⟩
                      subst hwv
                      have HBV := hid hb
                      clear hb q0 q1 q2 q3 s0 s1 y0 y1 y2 y3 z0 z1 z2 z3 HO5 HO6
                      go_upto_region 16 with fail
                      cases RR with
                      | false =>
                        refine wp_region_held (S := fun W : World => (W.cell? ⟨w.heap.size, 0, none⟩ = some (.int .u8 (la.kind : Int)) ∧ W.cell? ⟨w.heap.size, 1, none⟩ = some (St la.term) ∧ W.cell? ⟨w.heap.size, 2, none⟩ = some (.int .i64 la.n) ∧ W.cell? ⟨w.heap.size, 3, none⟩ = some (.slice aa la.kids.length ac)) ∧ (W.cell? ⟨w.heap.size + 1, 0, none⟩ = some (.int .u8 (lb.kind : Int)) ∧ W.cell? ⟨w.heap.size + 1, 1, none⟩ = some (St lb.term) ∧ W.cell? ⟨w.heap.size + 1, 2, none⟩ = some (.int .i64 lb.n) ∧ W.cell? ⟨w.heap.size + 1, 3, none⟩ = some (.slice ba lb.kids.length bc)) ∧ (W.cell? ⟨w.heap.size + 1 + 1, 0, none⟩ = some (.slice sa n1 sc) ∧ W.cell? ⟨w.heap.size + 1 + 1, 1, none⟩ = some (.slice pa n2 pc)) ∧ (W.cell? ⟨pp, 0, none⟩ = some (.int .u8 5) ∧ W.cell? ⟨pp, 1, none⟩ = some (.string ⟨#[]⟩) ∧ W.cell? ⟨pp, 2, none⟩ = some (.int .i64 0) ∧ W.cell? ⟨pp, 3, none⟩ = some (.slice a5 2 c5)) ∧ W.cell? ⟨qq, 0, none⟩ = some (.int .u8 6) ∧ W.cell? ⟨qq, 1, none⟩ = some (.string ⟨#[]⟩) ∧ W.cell? ⟨qq, 2, none⟩ = some (.int .i64 0) ∧ W.cell? ⟨qq, 3, none⟩ = some (.slice a6 2 c6)) (by kernel_rfl) ?_
                        have HBV := hid (HBV.out.trans ((below_dr wv).mono HBV.out.size))
                        have hs0 := HCZ.out _ HBV.out
                        refine wpAnyH_take (i := 0) (oi := kn0) (v := .agg (l5 a5 c5)) rfl (by kernel_rfl) (by kernel_rfl) (by kernel_rfl) (fun _ _ _ h => h) (y_load rfl 25 (.tmp 21) rfl (pp) 0 rfl (fun w hw => lkload25 hw.2.2.2.1.1 hw.2.2.2.1.2.1 hw.2.2.2.1.2.2.1 hw.2.2.2.1.2.2.2)) hs0 ?_
                        simp only [Act.put, kn0, List.setIfInBounds_toArray, List.set_cons_zero, List.set_cons_succ]
                        refine wpAnyH_take (i := 2) (oi := kn2) (v := .agg (l6 a6 c6)) rfl (by kernel_rfl) (by kernel_rfl) (by kernel_rfl) (fun _ _ _ h => h) (y_load rfl 25 (.tmp 22) rfl (qq) 0 rfl (fun w hw => lkload25 hw.2.2.2.2.1 hw.2.2.2.2.2.1 hw.2.2.2.2.2.2.1 hw.2.2.2.2.2.2.2)) hs0 ?_
                        simp only [Act.put, kn2, List.setIfInBounds_toArray, List.set_cons_zero, List.set_cons_succ]
                        refine wpAnyH_all (rs := [1]) (by kernel_rfl) (by simp) (all1 ?_)
                        refine op_call (o := kn1) (f := 10) (args := #[.agg (l5 a5 c5)]) rfl rfl (by simp only [kn1]; go_simp) (call_one (HR5.out _ HBV.out)) ?_
                        rintro v0 x1 ⟨rfl, hb⟩
                        have HX1 := hid hb
                        clear hs0 hb
                        have hs0 := HCZ.out x1 HX1.out
                        refine ⟨hs0, ?_⟩
                        simp only [Act.put, kn1, List.setIfInBounds_toArray, List.set_cons_zero, List.set_cons_succ]
                        refine wpAnyH_all (rs := [3]) (by kernel_rfl) (by simp) (all1 ?_)
                        refine op_call (o := kn3) (f := 10) (args := #[.agg (l6 a6 c6)]) rfl rfl (by simp only [kn3]; go_simp) (call_one (HR6.out _ HX1.out)) ?_
                        rintro v0 x2 ⟨rfl, hb⟩
                        have HX2 := hid hb
                        clear hs0 hb
                        have hs0 := HCZ.out x2 HX2.out
                        refine ⟨hs0, ?_⟩
                        simp only [Act.put, kn3, List.setIfInBounds_toArray, List.set_cons_zero, List.set_cons_succ]
                        refine wpAnyH_take (i := 4) (oi := kn4) (v := .bool true) rfl (by kernel_rfl) (by kernel_rfl) (by kernel_rfl) (fun _ _ _ h => h) (y_all rfl (fun _ => by simp only [kn4]; go_simp)) hs0 ?_
                        simp only [Act.put, kn4, List.setIfInBounds_toArray, List.set_cons_zero, List.set_cons_succ]
                        refine wpAnyH_take (i := 5) (oi := kn5) (v := .bool true) rfl (by kernel_rfl) (by kernel_rfl) (by kernel_rfl) (fun _ _ _ h => h) (y_all rfl (fun _ => rfl)) hs0 ?_
                        simp only [Act.put, kn5, List.setIfInBounds_toArray, List.set_cons_zero, List.set_cons_succ]
                        refine wpAnyH_take (i := 6) (oi := kn6) (v := .agg (l5 a5 c5)) rfl (by kernel_rfl) (by kernel_rfl) (by kernel_rfl) (fun _ _ _ h => h) (g_load (by rfl) 25 (.tmp 21) rfl (pp) 0 rfl (fun w hw => lkload25 hw.2.2.2.1.1 hw.2.2.2.1.2.1 hw.2.2.2.1.2.2.1 hw.2.2.2.1.2.2.2)) hs0 ?_
                        simp only [Act.put, kn6, List.setIfInBounds_toArray, List.set_cons_zero, List.set_cons_succ]
                        refine wpAnyH_all (rs := [7]) (by kernel_rfl) (by simp) (all1 ?_)
                        refine g_call (o := kn7) (f := 10) (args := #[.agg (l5 a5 c5)]) rfl (by rfl) (by simp only [kn7]; go_simp) (call_one (HR5.out _ HX2.out)) ?_
                        rintro v0 x3 ⟨rfl, hb⟩
                        have HX3 := hid hb
                        clear hs0 hb
                        have hs0 := HCZ.out x3 HX3.out
                        refine ⟨hs0, ?_⟩
                        simp only [Act.put, kn7, List.setIfInBounds_toArray, List.set_cons_zero, List.set_cons_succ]
                        refine wpAnyH_take (i := 8) (oi := kn8) (v := .bool true) rfl (by kernel_rfl) (by kernel_rfl) (by kernel_rfl) (fun _ _ _ h => h) (g_all (by rfl) (fun _ => by simp only [kn8]; go_simp)) hs0 ?_
                        simp only [Act.put, kn8, List.setIfInBounds_toArray, List.set_cons_zero, List.set_cons_succ]
                        refine wpAnyH_take (i := 9) (oi := kn9) (v := .bool true) rfl (by kernel_rfl) (by kernel_rfl) (by kernel_rfl) (fun _ _ _ h => h) (g_all (by rfl) (fun _ => rfl)) hs0 ?_
                        simp only [Act.put, kn9, List.setIfInBounds_toArray, List.set_cons_zero, List.set_cons_succ]
                        refine wpAnyH_take (i := 10) (oi := kn10) (v := undef) rfl (by kernel_rfl) (by kernel_rfl) (by kernel_rfl) (fun _ _ _ h => h) (g_skip (by rfl)) hs0 ?_
                        simp only [Act.put, kn10, List.setIfInBounds_toArray, List.set_cons_zero, List.set_cons_succ]
                        refine wpAnyH_take (i := 11) (oi := kn11) (v := undef) rfl (by kernel_rfl) (by kernel_rfl) (by kernel_rfl) (fun _ _ _ h => h) (g_skip (by rfl)) hs0 ?_
                        simp only [Act.put, kn11, List.setIfInBounds_toArray, List.set_cons_zero, List.set_cons_succ]
                        refine wpAnyH_take (i := 12) (oi := kn12) (v := undef) rfl (by kernel_rfl) (by kernel_rfl) (by kernel_rfl) (fun _ _ _ h => h) (g_skip (by rfl)) hs0 ?_
                        simp only [Act.put, kn12, List.setIfInBounds_toArray, List.set_cons_zero, List.set_cons_succ]
                        refine wpAnyH_take (i := 13) (oi := kn13) (v := undef) rfl (by kernel_rfl) (by kernel_rfl) (by kernel_rfl) (fun _ _ _ h => h) (g_skip (by rfl)) hs0 ?_
                        simp only [Act.put, kn13, List.setIfInBounds_toArray, List.set_cons_zero, List.set_cons_succ]
                        refine wpAnyH_take (i := 14) (oi := kn14) (v := undef) rfl (by kernel_rfl) (by kernel_rfl) (by kernel_rfl) (fun _ _ _ h => h) (g_skip (by rfl)) hs0 ?_
                        simp only [Act.put, kn14, List.setIfInBounds_toArray, List.set_cons_zero, List.set_cons_succ]
                        refine wpAnyH_take (i := 15) (oi := kn15) (v := undef) rfl (by kernel_rfl) (by kernel_rfl) (by kernel_rfl) (fun _ _ _ h => h) (g_skip (by rfl)) hs0 ?_
                        simp only [Act.put, kn15, List.setIfInBounds_toArray, List.set_cons_zero, List.set_cons_succ]
                        refine wpAnyH_take (i := 16) (oi := kn16) (v := .bool true) rfl (by kernel_rfl) (by kernel_rfl) (by kernel_rfl) (fun _ _ _ h => h) (g_all (by rfl) (fun _ => by simp only [kn16]; go_simp)) hs0 ?_
                        simp only [Act.put, kn16, List.setIfInBounds_toArray, List.set_cons_zero, List.set_cons_succ]
                        refine wpAnyH_take (i := 17) (oi := kn17) (v := .bool true) rfl (by kernel_rfl) (by kernel_rfl) (by kernel_rfl) (fun _ _ _ h => h) (y_all rfl (fun _ => by simp only [kn17]; go_simp)) hs0 ?_
                        simp only [Act.put, kn17, List.setIfInBounds_toArray, List.set_cons_zero, List.set_cons_succ]
                        refine wpAnyH_take (i := 18) (oi := kn18) (v := .bool true) rfl (by kernel_rfl) (by kernel_rfl) (by kernel_rfl) (fun _ _ _ h => h) (y_all rfl (fun _ => rfl)) hs0 ?_
                        simp only [Act.put, kn18, List.setIfInBounds_toArray, List.set_cons_zero, List.set_cons_succ]
                        refine wpAnyH_all (rs := [19]) (by kernel_rfl) (by simp) (all1 ?_)
                        refine g_call (o := kn19) (f := 15) (args := #[]) rfl (by rfl) (by simp only [kn19]; go_simp) (call_one (HWZ.out _ HX3.out)) ?_
                        rintro v0 x4 ⟨rfl, hb⟩
                        have HX4 := hid hb
                        clear hs0 hb
                        have hs0 := HCZ.out x4 HX4.out
                        refine ⟨hs0, ?_⟩
                        simp only [Act.put, kn19, List.setIfInBounds_toArray, List.set_cons_zero, List.set_cons_succ]
                        refine wpAnyH_take (i := 20) (oi := kn20) (v := .bool true) rfl (by kernel_rfl) (by kernel_rfl) (by kernel_rfl) (fun _ _ _ h => h) (y_all rfl (fun _ => by simp only [kn20]; go_simp)) hs0 ?_
                        simp only [Act.put, kn20, List.setIfInBounds_toArray, List.set_cons_zero, List.set_cons_succ]
                        refine wpAnyH_take (i := 21) (oi := kn21) (v := .bool true) rfl (by kernel_rfl) (by kernel_rfl) (by kernel_rfl) (fun _ _ _ h => h) (y_all rfl (fun _ => rfl)) hs0 ?_
                        simp only [Act.put, kn21, List.setIfInBounds_toArray, List.set_cons_zero, List.set_cons_succ]
                        refine wpAnyH_done (by kernel_rfl) ?_ _
                        clear hs0
                        go_wp2_with fail
                        go_ret
                        exact ⟨rfl, HBB.out.trans ((HBZ.out.trans (HX4.out.mono HBZ.out.size)).mono HBB.out.size)⟩
                      | true =>
                        refine wp_region_held (S := fun W : World => (W.cell? ⟨w.heap.size, 0, none⟩ = some (.int .u8 (la.kind : Int)) ∧ W.cell? ⟨w.heap.size, 1, none⟩ = some (St la.term) ∧ W.cell? ⟨w.heap.size, 2, none⟩ = some (.int .i64 la.n) ∧ W.cell? ⟨w.heap.size, 3, none⟩ = some (.slice aa la.kids.length ac)) ∧ (W.cell? ⟨w.heap.size + 1, 0, none⟩ = some (.int .u8 (lb.kind : Int)) ∧ W.cell? ⟨w.heap.size + 1, 1, none⟩ = some (St lb.term) ∧ W.cell? ⟨w.heap.size + 1, 2, none⟩ = some (.int .i64 lb.n) ∧ W.cell? ⟨w.heap.size + 1, 3, none⟩ = some (.slice ba lb.kids.length bc)) ∧ (W.cell? ⟨w.heap.size + 1 + 1, 0, none⟩ = some (.slice sa n1 sc) ∧ W.cell? ⟨w.heap.size + 1 + 1, 1, none⟩ = some (.slice pa n2 pc)) ∧ (W.cell? ⟨pp, 0, none⟩ = some (.int .u8 5) ∧ W.cell? ⟨pp, 1, none⟩ = some (.string ⟨#[]⟩) ∧ W.cell? ⟨pp, 2, none⟩ = some (.int .i64 0) ∧ W.cell? ⟨pp, 3, none⟩ = some (.slice a5 2 c5)) ∧ W.cell? ⟨qq, 0, none⟩ = some (.int .u8 6) ∧ W.cell? ⟨qq, 1, none⟩ = some (.string ⟨#[]⟩) ∧ W.cell? ⟨qq, 2, none⟩ = some (.int .i64 0) ∧ W.cell? ⟨qq, 3, none⟩ = some (.slice a6 2 c6)) (by kernel_rfl) ?_
                        have HBV := hid (HBV.out.trans ((below_dr wv).mono HBV.out.size))
                        have hs0 := HCZ.out _ HBV.out
                        refine wpAnyH_take (i := 0) (oi := kn0) (v := .agg (l5 a5 c5)) rfl (by kernel_rfl) (by kernel_rfl) (by kernel_rfl) (fun _ _ _ h => h) (y_load rfl 25 (.tmp 21) rfl (pp) 0 rfl (fun w hw => lkload25 hw.2.2.2.1.1 hw.2.2.2.1.2.1 hw.2.2.2.1.2.2.1 hw.2.2.2.1.2.2.2)) hs0 ?_
                        simp only [Act.put, kn0, List.setIfInBounds_toArray, List.set_cons_zero, List.set_cons_succ]
                        refine wpAnyH_take (i := 2) (oi := kn2) (v := .agg (l6 a6 c6)) rfl (by kernel_rfl) (by kernel_rfl) (by kernel_rfl) (fun _ _ _ h => h) (y_load rfl 25 (.tmp 22) rfl (qq) 0 rfl (fun w hw => lkload25 hw.2.2.2.2.1 hw.2.2.2.2.2.1 hw.2.2.2.2.2.2.1 hw.2.2.2.2.2.2.2)) hs0 ?_
                        simp only [Act.put, kn2, List.setIfInBounds_toArray, List.set_cons_zero, List.set_cons_succ]
                        refine wpAnyH_all (rs := [1]) (by kernel_rfl) (by simp) (all1 ?_)
                        refine op_call (o := kn1) (f := 10) (args := #[.agg (l5 a5 c5)]) rfl rfl (by simp only [kn1]; go_simp) (call_one (HR5.out _ HBV.out)) ?_
                        rintro v0 x1 ⟨rfl, hb⟩
                        have HX1 := hid hb
                        clear hs0 hb
                        have hs0 := HCZ.out x1 HX1.out
                        refine ⟨hs0, ?_⟩
                        simp only [Act.put, kn1, List.setIfInBounds_toArray, List.set_cons_zero, List.set_cons_succ]
                        refine wpAnyH_all (rs := [3]) (by kernel_rfl) (by simp) (all1 ?_)
                        refine op_call (o := kn3) (f := 10) (args := #[.agg (l6 a6 c6)]) rfl rfl (by simp only [kn3]; go_simp) (call_one (HR6.out _ HX1.out)) ?_
                        rintro v0 x2 ⟨rfl, hb⟩
                        have HX2 := hid hb
                        clear hs0 hb
                        have hs0 := HCZ.out x2 HX2.out
                        refine ⟨hs0, ?_⟩
                        simp only [Act.put, kn3, List.setIfInBounds_toArray, List.set_cons_zero, List.set_cons_succ]
                        refine wpAnyH_take (i := 4) (oi := kn4) (v := .bool true) rfl (by kernel_rfl) (by kernel_rfl) (by kernel_rfl) (fun _ _ _ h => h) (y_all rfl (fun _ => by simp only [kn4]; go_simp)) hs0 ?_
                        simp only [Act.put, kn4, List.setIfInBounds_toArray, List.set_cons_zero, List.set_cons_succ]
                        refine wpAnyH_take (i := 5) (oi := kn5) (v := .bool true) rfl (by kernel_rfl) (by kernel_rfl) (by kernel_rfl) (fun _ _ _ h => h) (y_all rfl (fun _ => rfl)) hs0 ?_
                        simp only [Act.put, kn5, List.setIfInBounds_toArray, List.set_cons_zero, List.set_cons_succ]
                        refine wpAnyH_take (i := 6) (oi := kn6) (v := .agg (l5 a5 c5)) rfl (by kernel_rfl) (by kernel_rfl) (by kernel_rfl) (fun _ _ _ h => h) (g_load (by rfl) 25 (.tmp 21) rfl (pp) 0 rfl (fun w hw => lkload25 hw.2.2.2.1.1 hw.2.2.2.1.2.1 hw.2.2.2.1.2.2.1 hw.2.2.2.1.2.2.2)) hs0 ?_
                        simp only [Act.put, kn6, List.setIfInBounds_toArray, List.set_cons_zero, List.set_cons_succ]
                        refine wpAnyH_all (rs := [7]) (by kernel_rfl) (by simp) (all1 ?_)
                        refine g_call (o := kn7) (f := 10) (args := #[.agg (l5 a5 c5)]) rfl (by rfl) (by simp only [kn7]; go_simp) (call_one (HR5.out _ HX2.out)) ?_
                        rintro v0 x3 ⟨rfl, hb⟩
                        have HX3 := hid hb
                        clear hs0 hb
                        have hs0 := HCZ.out x3 HX3.out
                        refine ⟨hs0, ?_⟩
                        simp only [Act.put, kn7, List.setIfInBounds_toArray, List.set_cons_zero, List.set_cons_succ]
                        refine wpAnyH_take (i := 8) (oi := kn8) (v := .bool false) rfl (by kernel_rfl) (by kernel_rfl) (by kernel_rfl) (fun _ _ _ h => h) (g_all (by rfl) (fun _ => by simp only [kn8]; go_simp)) hs0 ?_
                        simp only [Act.put, kn8, List.setIfInBounds_toArray, List.set_cons_zero, List.set_cons_succ]
                        refine wpAnyH_take (i := 9) (oi := kn9) (v := .bool false) rfl (by kernel_rfl) (by kernel_rfl) (by kernel_rfl) (fun _ _ _ h => h) (g_all (by rfl) (fun _ => rfl)) hs0 ?_
                        simp only [Act.put, kn9, List.setIfInBounds_toArray, List.set_cons_zero, List.set_cons_succ]
                        refine wpAnyH_take (i := 10) (oi := kn10) (v := .agg #[.int .u8 (la.kind : Int), St la.term, .int .i64 la.n, .slice aa la.kids.length ac]) rfl (by kernel_rfl) (by kernel_rfl) (by kernel_rfl) (fun _ _ _ h => h) (g_load (by rfl) 25 (.tmp 8) rfl (w.heap.size) 0 rfl (fun w hw => lkload25 hw.1.1 hw.1.2.1 hw.1.2.2.1 hw.1.2.2.2)) hs0 ?_
                        simp only [Act.put, kn10, List.setIfInBounds_toArray, List.set_cons_zero, List.set_cons_succ]
                        refine wpAnyH_all (rs := [11]) (by kernel_rfl) (by simp) (all1 ?_)
                        refine g_call (o := kn11) (f := 10) (args := #[.agg #[.int .u8 (la.kind : Int), St la.term, .int .i64 la.n, .slice aa la.kids.length ac]]) rfl (by rfl) (by simp only [kn11]; go_simp) (call_one (HRA.out rfl _ HX3.out)) ?_
                        rintro v0 x4 ⟨rfl, hb⟩
                        have HX4 := hid hb
                        clear hs0 hb
                        have hs0 := HCZ.out x4 HX4.out
                        refine ⟨hs0, ?_⟩
                        simp only [Act.put, kn11, List.setIfInBounds_toArray, List.set_cons_zero, List.set_cons_succ]
                        refine wpAnyH_take (i := 12) (oi := kn12) (v := .bool true) rfl (by kernel_rfl) (by kernel_rfl) (by kernel_rfl) (fun _ _ _ h => h) (g_all (by rfl) (fun _ => rfl)) hs0 ?_
                        simp only [Act.put, kn12, List.setIfInBounds_toArray, List.set_cons_zero, List.set_cons_succ]
                        refine wpAnyH_take (i := 13) (oi := kn13) (v := .agg #[.int .u8 (lb.kind : Int), St lb.term, .int .i64 lb.n, .slice ba lb.kids.length bc]) rfl (by kernel_rfl) (by kernel_rfl) (by kernel_rfl) (fun _ _ _ h => h) (g_load (by rfl) 25 (.tmp 9) rfl (w.heap.size + 1) 0 rfl (fun w hw => lkload25 hw.2.1.1 hw.2.1.2.1 hw.2.1.2.2.1 hw.2.1.2.2.2)) hs0 ?_
                        simp only [Act.put, kn13, List.setIfInBounds_toArray, List.set_cons_zero, List.set_cons_succ]
                        refine wpAnyH_all (rs := [14]) (by kernel_rfl) (by simp) (all1 ?_)
                        refine g_call (o := kn14) (f := 10) (args := #[.agg #[.int .u8 (lb.kind : Int), St lb.term, .int .i64 lb.n, .slice ba lb.kids.length bc]]) rfl (by rfl) (by simp only [kn14]; go_simp) (call_one (HRB.out rfl _ HX4.out)) ?_
                        rintro v0 x5 ⟨rfl, hb⟩
                        have HX5 := hid hb
                        clear hs0 hb
                        have hs0 := HCZ.out x5 HX5.out
                        refine ⟨hs0, ?_⟩
                        simp only [Act.put, kn14, List.setIfInBounds_toArray, List.set_cons_zero, List.set_cons_succ]
                        refine wpAnyH_take (i := 15) (oi := kn15) (v := .bool true) rfl (by kernel_rfl) (by kernel_rfl) (by kernel_rfl) (fun _ _ _ h => h) (g_all (by rfl) (fun _ => by simp only [kn15]; go_simp)) hs0 ?_
                        simp only [Act.put, kn15, List.setIfInBounds_toArray, List.set_cons_zero, List.set_cons_succ]
                        refine wpAnyH_take (i := 16) (oi := kn16) (v := .bool true) rfl (by kernel_rfl) (by kernel_rfl) (by kernel_rfl) (fun _ _ _ h => h) (g_all (by rfl) (fun _ => by simp only [kn16]; go_simp)) hs0 ?_
                        simp only [Act.put, kn16, List.setIfInBounds_toArray, List.set_cons_zero, List.set_cons_succ]
                        refine wpAnyH_take (i := 17) (oi := kn17) (v := .bool true) rfl (by kernel_rfl) (by kernel_rfl) (by kernel_rfl) (fun _ _ _ h => h) (y_all rfl (fun _ => by simp only [kn17]; go_simp)) hs0 ?_
                        simp only [Act.put, kn17, List.setIfInBounds_toArray, List.set_cons_zero, List.set_cons_succ]
                        refine wpAnyH_take (i := 18) (oi := kn18) (v := .bool true) rfl (by kernel_rfl) (by kernel_rfl) (by kernel_rfl) (fun _ _ _ h => h) (y_all rfl (fun _ => rfl)) hs0 ?_
                        simp only [Act.put, kn18, List.setIfInBounds_toArray, List.set_cons_zero, List.set_cons_succ]
                        refine wpAnyH_all (rs := [19]) (by kernel_rfl) (by simp) (all1 ?_)
                        refine g_call (o := kn19) (f := 15) (args := #[]) rfl (by rfl) (by simp only [kn19]; go_simp) (call_one (HWZ.out _ HX5.out)) ?_
                        rintro v0 x6 ⟨rfl, hb⟩
                        have HX6 := hid hb
                        clear hs0 hb
                        have hs0 := HCZ.out x6 HX6.out
                        refine ⟨hs0, ?_⟩
                        simp only [Act.put, kn19, List.setIfInBounds_toArray, List.set_cons_zero, List.set_cons_succ]
                        refine wpAnyH_take (i := 20) (oi := kn20) (v := .bool true) rfl (by kernel_rfl) (by kernel_rfl) (by kernel_rfl) (fun _ _ _ h => h) (y_all rfl (fun _ => by simp only [kn20]; go_simp)) hs0 ?_
                        simp only [Act.put, kn20, List.setIfInBounds_toArray, List.set_cons_zero, List.set_cons_succ]
                        refine wpAnyH_take (i := 21) (oi := kn21) (v := .bool true) rfl (by kernel_rfl) (by kernel_rfl) (by kernel_rfl) (fun _ _ _ h => h) (y_all rfl (fun _ => rfl)) hs0 ?_
                        simp only [Act.put, kn21, List.setIfInBounds_toArray, List.set_cons_zero, List.set_cons_succ]
                        refine wpAnyH_done (by kernel_rfl) ?_ _
                        clear hs0
                        go_wp2_with fail
                        go_ret
                        exact ⟨rfl, HBB.out.trans ((HBZ.out.trans (HX6.out.mono HBZ.out.size)).mono HBB.out.size)⟩
end Go.Proofs.YtdllpklecdmghaaGreatDoor
