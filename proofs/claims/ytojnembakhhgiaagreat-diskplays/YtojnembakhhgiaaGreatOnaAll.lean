import Derived.Test.YtojnembakhhgiaaGreatLibAll
/- Does a write stay? -/
namespace Go.Proofs.YtojnembakhhgiaaGreat
open Go.RowKit

theorem bv64 (a : Nat) : (BitVec.ofInt 64 (a : Int)).toNat = a % 18446744073709551616 := by
  rw [BitVec.toNat_ofInt]
  omega
theorem and64u {a : Nat} (n : Nat) (hn : 2 ^ n < 18446744073709551616) (ha : a < 18446744073709551616) : bits .and .u64 (a : Int) (((2 ^ n - 1 : Nat)) : Int) = ((a % 2 ^ n : Nat) : Int) := by
  have h1 : a % 2 ^ n ≤ a := Nat.mod_le _ _
  change IntKind.u64.wrap ((BitVec.ofInt 64 (a : Int) &&& BitVec.ofInt 64 ((2 ^ n - 1 : Nat) : Int)).toNat : Int) = _
  rw [BitVec.toNat_and, bv64, bv64, Nat.mod_eq_of_lt ha, Nat.mod_eq_of_lt (show 2 ^ n - 1 < 18446744073709551616 by omega), Nat.and_two_pow_sub_one_eq_mod, IntKind.wrap_u64]
  omega
/-- the table lies there -/
def mixA : Array Value := #[.int .u64 996825010, .int .u64 642813549, .int .u64 513874426, .int .u64 1027748829, .int .u64 705979059]
def Mx (w : World) : Prop := ∃ e fr, w.heap[0]? = some (.cells mixA e fr)
theorem bit_is (keep n : Nat) (hk : keep < 18446744073709551616) : (bits BinOp.and IntKind.u64 ((keep : Int) / 2 ^ (n % 64)) 1 == 1) = bitK keep n := by
  have e1 : ((keep : Int) / 2 ^ (n % 64)) = ((keep / 2 ^ (n % 64) : Nat) : Int) := by simp
  have hlt : keep / 2 ^ (n % 64) < 18446744073709551616 := Nat.lt_of_le_of_lt (Nat.div_le_self _ _) hk
  have e2 := and64u (a := keep / 2 ^ (n % 64)) 1 (by omega) hlt
  have e3 : (((2 ^ 1 - 1 : Nat)) : Int) = 1 := rfl
  rw [e3] at e2
  rw [e1, e2]
  unfold bitK
  rw [Nat.testBit_eq_decide_div_mod_eq]
  rw [Bool.eq_iff_iff]
  simp
  omega
set_option maxRecDepth 100000 in
set_option maxHeartbeats 4000000 in
theorem stays1_any (W : World) (d xo xd : Nat) (C : Array Value) (keep : Nat) (v : Value) (l : List Int) (x : Dw) (hd : W.heap[d]? = some (.cells C 56 (0, 0))) (hc5 : C[5]? = some (.int .u64 (keep : Int))) (hk : keep < 18446744073709551616) (ho : W.cell? ⟨xo, 0, none⟩ = some v) (hxd : W.cell? ⟨xd, 0, none⟩ = some (.pointer (some ⟨d, 0, none⟩))) (hr : W.ownsRow 0 3 1 v l.length (l.map (Value.int .i64))) (hl : l.length < 1000000) (hs : l.Pairwise (· ≤ ·)) :
    Calls Tryz.prog 64 #[.agg (wc x).toArray, .pointer (some ⟨xo, 0, none⟩), .pointer (some ⟨xd, 0, none⟩)] W fun e w' => e = .returned (.bool (bitK keep (l.countP (· < (x.step : Int))))) ∧ Below W.heap.size W w' := by
  obtain ⟨cs, hcs⟩ : ∃ cs, cs = wc x := ⟨_, rfl⟩
  rw [← hcs]
  obtain ⟨w0, hw0⟩ : ∃ w0, w0 = W.alloc (.cells cs.toArray 87) := ⟨_, rfl⟩
  have hb0 : Below W.heap.size W w0 := hw0 ▸ (Below.refl _ _).alloc (Nat.le_refl _) _
  have c0 : w0.cell? ⟨W.heap.size, 0, none⟩ = some (.int .i64 (x.step : Int)) := by
    rw [hw0, cell_of_heap (heap_alloc_new W _), hcs]
    rfl
  have hlow : ∀ g o u, W.cell? ⟨g, o, none⟩ = some u → w0.cell? ⟨g, o, none⟩ = some u := fun g o u hu => (World.cell?_of_block (hb0.block g (World.block_lt_of_cell? W ⟨g, o, none⟩ hu))).trans hu
  have c1 := hlow _ _ _ ho
  have c2 := hlow _ _ _ hxd
  have c5 : w0.cell? ⟨d, 5, none⟩ = some (.int .u64 (keep : Int)) := hlow _ _ _ ((cell_of_heap hd 5).trans hc5)
  have hr0 : w0.ownsRow 0 3 1 v l.length (l.map (Value.int .i64)) := ownsRow_same hr (fun g hg => hb0.block g (hr.lt g hg).2)
  obtain ⟨n, hn⟩ : ∃ n, n = l.countP (· < (x.step : Int)) := ⟨_, rfl⟩
  have HBS := hid (bsearch_any w0 v l (x.step : Int) hr0 (by omega) hs)
  rw [← hn] at HBS
  rw [← hn]
  have hnl : n < 1000000 := by
    have := List.countP_le_length (p := fun y => decide (y < (x.step : Int))) (l := l)
    omega
  have HB := hid hb0
  clear hcs hb0 hlow ho hxd hd hc5 hr hr0 hn hs hl
  generalize (x.step : Int) = S at *
  subst hw0
  go_enter Tryz.func64, Tryz.ntmps64
  go_wp2_with fail
  refine HBS.out.mono ?_
  rintro e w1 ⟨rfl, q, rfl⟩
  go_wp2_with fail
  go_ret
  refine ⟨?_, drewN_below HB.out q⟩
  show Ending.returned (Value.bool (bits BinOp.and IntKind.u64 ((keep : Int) / 2 ^ (n % 64)) 1 == 1)) = _
  rw [bit_is keep n hk]
end Go.Proofs.YtojnembakhhgiaaGreat

/- Is a write struck? The function that DeleteFunc is handed. -/
namespace Go.Proofs.YtojnembakhhgiaaGreat
open Go.RowKit

theorem eg58 : ∀ args w, (callFunc 64 args).run Tryz.prog w = .ok (.enter 64 args) w := Go.Proofs.enters_of Tryz.func64 (by kernel_rfl) rfl
theorem eg61 : ∀ args w, (callFunc 67 args).run Tryz.prog w = .ok (.enter 67 args) w := Go.Proofs.enters_of Tryz.func67 (by kernel_rfl) rfl
/-- what function 61 answers of any write, wherever the blocks F are as they are in w -/
def Asks (F : List Nat) (w : World) (xs : Nat) (P : Dw → Bool) : Prop := ∀ W : World, (∀ g ∈ F, W.heap[g]? = w.heap[g]?) → ∀ x : Dw, x.pg.length = 256 → Calls Tryz.prog 67 #[.agg (wc x).toArray, .pointer (some ⟨xs, 0, none⟩)] W fun e w' => e = .returned (.bool (P x)) ∧ Below W.heap.size W w'
set_option maxRecDepth 100000 in
set_option maxHeartbeats 4000000 in
theorem struck_any (W : World) (d xo xd xs : Nat) (C : Array Value) (keep : Nat) (v : Value) (l : List Int) (x : Dw) (hx : x.pg.length = 256) (hd : W.heap[d]? = some (.cells C 56 (0, 0))) (hc5 : C[5]? = some (.int .u64 (keep : Int))) (hk : keep < 18446744073709551616) (ho : W.cell? ⟨xo, 0, none⟩ = some v) (hxd : W.cell? ⟨xd, 0, none⟩ = some (.pointer (some ⟨d, 0, none⟩))) (hxs : W.cell? ⟨xs, 0, none⟩ = some (.func (.func 64) #[] #[.pointer (some ⟨xo, 0, none⟩), .pointer (some ⟨xd, 0, none⟩)])) (hr : W.ownsRow 0 3 1 v l.length (l.map (Value.int .i64))) (hl : l.length < 1000000) (hs : l.Pairwise (· ≤ ·)) :
    Calls Tryz.prog 67 #[.agg (wc x).toArray, .pointer (some ⟨xs, 0, none⟩)] W fun e w' => e = .returned (.bool (!bitK keep (l.countP (· < (x.step : Int))))) ∧ Below W.heap.size W w' := by
  obtain ⟨w0, hw0⟩ : ∃ w0, w0 = W.alloc (.cells (wc x).toArray 87) := ⟨_, rfl⟩
  have hb0 : Below W.heap.size W w0 := hw0 ▸ (Below.refl _ _).alloc (Nat.le_refl _) _
  have hlow : ∀ g o u, W.cell? ⟨g, o, none⟩ = some u → w0.cell? ⟨g, o, none⟩ = some u := fun g o u hu => (World.cell?_of_block (hb0.block g (World.block_lt_of_cell? W ⟨g, o, none⟩ hu))).trans hu
  have c1 := hlow _ _ _ hxs
  have HS := hid (stays1_any w0 d xo xd C keep v l x ((hb0.block d (lt_of_block hd)).trans hd) hc5 hk (hlow _ _ _ ho) (hlow _ _ _ hxd) (ownsRow_same hr (fun g hg => hb0.block g (hr.lt g hg).2)) hl hs)
  obtain ⟨cs, hcs⟩ : ∃ cs, cs = wc x := ⟨_, rfl⟩
  rw [← hcs] at HS hw0 ⊢
  have hcl : cs.length = 258 := by rw [hcs, wc_len hx]
  have hra : w0.rangeAt W.heap.size 0 cs := fun j u hu => by rw [hw0, cell_of_heap (heap_alloc_new W _), Nat.zero_add, List.getElem?_toArray]; exact hu
  have hu1 := Tryz.underlying87
  have hi1 : (Tryz.prog.info? 87).map (·.size) = some cs.length := by rw [size81, hcl]
  have HB := hid hb0
  have eg := eg58
  clear hcs hb0 hlow ho hxd hd hc5 hr hs hl hx hxs
  generalize bitK keep (l.countP (· < (x.step : Int))) = B at *
  subst hw0
  go_enter Tryz.func67, Tryz.ntmps67
  go_wp2_with fail
  refine wp_load_mid 87 (.tmp 2) rfl W.heap.size 0 rfl cs _ hra hu1 rfl hi1 ?_
  go_wp2_with fail
  refine HS.out.mono ?_
  rintro e w1 ⟨rfl, hb⟩
  have HB1 := hid hb
  clear hb
  go_wp2_with fail
  go_ret
  refine ⟨rfl, ?_⟩
  have h1 := HB.out
  have h2 := HB1.out
  exact ⟨h2.os.trans h1.os, h2.tape.trans h1.tape, h2.output.trans h1.output, Nat.le_trans h1.size h2.size, fun g hg => (h2.block g (Nat.lt_of_lt_of_le hg h1.size)).trans (h1.block g hg)⟩
theorem below_comp {w w1 w2 : World} (h1 : Below w.heap.size w w1) (h2 : Below w1.heap.size w1 w2) : Below w.heap.size w w2 :=
  ⟨h2.os.trans h1.os, h2.tape.trans h1.tape, h2.output.trans h1.output, Nat.le_trans h1.size h2.size, fun g hg => (h2.block g (Nat.lt_of_lt_of_le hg h1.size)).trans (h1.block g hg)⟩
end Go.Proofs.YtojnembakhhgiaaGreat
