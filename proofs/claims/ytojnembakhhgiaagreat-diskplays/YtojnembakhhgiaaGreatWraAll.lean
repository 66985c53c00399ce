import Derived.Test.YtojnembakhhgiaaGreatBldAll
/- What Write does when the step happens. -/
namespace Go.Proofs.YtojnembakhhgiaaGreat
open Go.RowKit

theorem load62 {w : World} {b o : Nat} {v : Value} (h : w.cell? ⟨b, o, none⟩ = some v) : (Instr.loadAt 61 (.pointer (some ⟨b, o, none⟩))).run Tryz.prog w = .ok v w := by go_simp
theorem load29 {w : World} {b o : Nat} {v : Value} (h : w.cell? ⟨b, o, none⟩ = some v) : (Instr.loadAt 24 (.pointer (some ⟨b, o, none⟩))).run Tryz.prog w = .ok v w := by go_simp
theorem load3 {w : World} {b o : Nat} {v : Value} (h : w.cell? ⟨b, o, none⟩ = some v) : (Instr.loadAt 3 (.pointer (some ⟨b, o, none⟩))).run Tryz.prog w = .ok v w := by go_simp
theorem load23 {w : World} {b o : Nat} {v : Value} (h : w.cell? ⟨b, o, none⟩ = some v) : (Instr.loadAt 47 (.pointer (some ⟨b, o, none⟩))).run Tryz.prog w = .ok v w := by go_simp
def u0 : Oper := { dst := some 4, op := Go.Op.load 61 (Go.Operand.tmp 0), type := 61, pos := "disk.go:85", after := #[], guard := none }
def u1 : Oper := { dst := some 5, op := Go.Op.load 24 (Go.Operand.tmp 1), type := 24, pos := "disk.go:85", after := #[], guard := none }
def u2 : Oper := { dst := some 6, op := Go.Op.nilCheck (Go.Operand.tmp 5), type := 0, pos := "disk.go:85", after := #[{ on := 1, ground := Go.Ground.data }], guard := none }
def u3 : Oper := { dst := some 7, op := Go.Op.fieldAddr 56 (Go.Operand.tmp 6) 2, type := 0, pos := "disk.go:85", after := #[{ on := 2, ground := Go.Ground.data }], guard := none }
def u4 : Oper := { dst := some 8, op := Go.Op.load 3 (Go.Operand.tmp 7), type := 3, pos := "disk.go:85", after := #[{ on := 3, ground := Go.Ground.data }], guard := none }
def u5 : Oper := { dst := some 9, op := Go.Op.load 3 (Go.Operand.tmp 2), type := 3, pos := "disk.go:85", after := #[], guard := none }
def u6 : Oper := { dst := some 10, op := Go.Op.load 47 (Go.Operand.tmp 3), type := 47, pos := "disk.go:85", after := #[], guard := none }
def u7 : Oper := { dst := some 11, op := Go.Op.call { callee := Go.Callee.value (Go.Operand.func 52), args := #[Go.Operand.tmp 10], argTypes := #[47] }, type := 83, pos := "disk.go:85", after := #[{ on := 6, ground := Go.Ground.data }], guard := none }
def u8 : Oper := { dst := some 12, op := Go.Op.build 87 #[(0, Go.Operand.tmp 8), (1, Go.Operand.tmp 9), (2, Go.Operand.tmp 11)], type := 87, pos := "disk.go:85", after := #[{ on := 4, ground := Go.Ground.data }, { on := 5, ground := Go.Ground.data }, { on := 7, ground := Go.Ground.data }], guard := none }
def u9 : Oper := { dst := some 13, op := Go.Op.call { callee := Go.Callee.value (Go.Operand.func 51), args := #[Go.Operand.tmp 4, Go.Operand.tmp 12], argTypes := #[61, 87] }, type := 0, pos := "disk.go:85", after := #[{ on := 0, ground := Go.Ground.data }, { on := 8, ground := Go.Ground.data }, { on := 7, ground := Go.Ground.chain }], guard := none }
/-- what is left of a file's block behind a write -/
def Wrt (W : World) (m : Fm) (l : List Bs) (ws : List Dw) (x : Dw) (w' : World) : Prop := ∃ pv' ov', w'.heap[m.p]? = some (.cells #[pv', m.sv, ov'] 77 (0, 0)) ∧ w'.ownsRow 0 83 256 pv' (lay l x.at' x.pg).length (pcs (lay l x.at' x.pg)) ∧ w'.ownsRow 0 87 258 ov' (ws ++ [x]).length (wcs (ws ++ [x])) ∧ Kf (m.p :: (ob m.pv ++ ob m.ov)) W w' ∧ (∀ g ∈ ob pv', g ∈ ob m.pv ∨ W.heap.size ≤ g) ∧ (∀ g ∈ ob ov', g ∈ ob m.ov ∨ W.heap.size ≤ g) ∧ ∀ g ∈ ob pv', g ∉ ob ov'
set_option maxRecDepth 100000 in
set_option maxHeartbeats 8000000 in
theorem write1_any (W : World) (d : Nat) (m : Fm) (cs0 : Array Value) (l st : List Bs) (ws : List Dw) (k n : Nat) (no : Nat) (v : Value) (b : Bs) (hd : W.heap[d]? = some (.cells cs0 56 (0, 0))) (hc2 : cs0[2]? = some (.int .i64 (k : Int))) (hfa : FileAt W l st ws m) (hap : m.blocks.Nodup) (hdm : d ∉ m.blocks) (x0 x1 x2 x3 : Nat) (h0 : W.cell? ⟨x0, 0, none⟩ = some (.pointer (some ⟨m.p, 0, none⟩))) (h1 : W.cell? ⟨x1, 0, none⟩ = some (.pointer (some ⟨d, 0, none⟩))) (h2 : W.cell? ⟨x2, 0, none⟩ = some (.int .i64 (n : Int))) (h3 : W.cell? ⟨x3, 0, none⟩ = some v) (hx : ∀ g ∈ [x0, x1, x2, x3], g ∉ m.blocks) (hv : Bo W v b) (hb : b.length ≤ 256) (hpg : ∀ y ∈ l, y.length = 256) (hl : l.length ≤ 100000) (hn : n ≤ 100000) (hws : ws.length ≤ 1000000) :
    Calls Tryz.prog 50 #[.pointer (some ⟨x0, 0, none⟩), .pointer (some ⟨x1, 0, none⟩), .pointer (some ⟨x2, 0, none⟩), .pointer (some ⟨x3, 0, none⟩)] W fun e w' => e = .returned (.tuple #[]) ∧ Wrt W m l ws ⟨k, no, n, pageB b⟩ w' := by
  have hap' : ((m.p :: (ob m.pv ++ (ob m.sv ++ ob m.ov))) : List Nat).Nodup := hap
  obtain ⟨a1, a2⟩ := List.nodup_cons.1 hap'
  obtain ⟨a3, a4, a5⟩ := List.nodup_append.1 a2
  have hc : W.cell? ⟨d, 2, none⟩ = some (.int .i64 (k : Int)) := (cell_of_heap hd 2).trans hc2
  obtain ⟨cs, hcs⟩ : ∃ cs, cs = bcs (pageB b) := ⟨_, rfl⟩
  have hcl : cs.length = 256 := by rw [hcs, bcs_len, pageB_len hb]
  obtain ⟨C, hC⟩ : ∃ C, C = wc ⟨k, no, n, pageB b⟩ := ⟨_, rfl⟩
  have hbd : ∀ W' : World, (Instr.build 87 #[(0, .int .i64 (k : Int)), (1, .int .i64 (n : Int)), (2, .agg cs.toArray)]).run Tryz.prog W' = .ok (.agg C.toArray) W' := fun W' => by
    rw [build81 W' k n cs hcl, hC, hcs]
  have HPO := hid (pageOf_any W.drew v b (hv.low ⟨rfl, rfl, rfl, Nat.le_refl _, fun _ _ => rfl⟩) hb)
  rw [← hcs] at HPO
  have HW : Hid (∀ w2, Below W.heap.size W w2 → Calls Tryz.prog 51 #[.pointer (some ⟨m.p, 0, none⟩), .agg C.toArray] w2 fun e w' => e = .returned (.tuple #[]) ∧ Wrt W m l ws ⟨k, no, n, pageB b⟩ w') := hid (fun w2 hb2 => by
    have hfa2 := hfa.same (w' := w2) (fun g hg => hb2.block g (hfa.lt hg))
    rw [hC]
    refine (write_any w2 m.p m.pv m.sv m.ov l ws ⟨k, no, n, pageB b⟩ hfa2.blk hfa2.pg hfa2.op (fun g hg e => a1 (by subst e; simp [hg])) (fun g hg => ⟨fun e => a1 (by subst e; simp [hg]), fun hg2 => a5 g hg2 g (by simp [hg]) rfl⟩) hpg (pageB_len hb) hl hn hws).mono ?_
    rintro e w' ⟨rfl, pv', ov', q1, q2, q3, q4, q5, q6, q7⟩
    refine ⟨rfl, pv', ov', q1, q2, q3, (below_kf hb2).trans q4 (fun g hg => .inl hg), fun g hg => ?_, fun g hg => ?_, q7⟩
    · rcases q5 g hg with h | h
      · exact .inl h
      · exact .inr (Nat.le_trans hb2.size h)
    · rcases q6 g hg with h | h
      · exact .inl h
      · exact .inr (Nat.le_trans hb2.size h))
  have hS : ∀ w2, Kf (m.p :: (ob m.pv ++ ob m.ov)) W w2 → w2.cell? ⟨x0, 0, none⟩ = some (.pointer (some ⟨m.p, 0, none⟩)) ∧ w2.cell? ⟨x1, 0, none⟩ = some (.pointer (some ⟨d, 0, none⟩)) ∧ w2.cell? ⟨x2, 0, none⟩ = some (.int .i64 (n : Int)) ∧ w2.cell? ⟨x3, 0, none⟩ = some v ∧ w2.cell? ⟨d, 2, none⟩ = some (.int .i64 (k : Int)) := fun w2 hk => by
    have hin : ∀ g, g ∈ (m.p :: (ob m.pv ++ ob m.ov)) → g ∈ m.blocks := fun g hg => by
      unfold Fm.blocks
      simp only [List.mem_cons, List.mem_append] at hg ⊢
      rcases hg with h | h | h
      · exact .inl h
      · exact .inr (.inl h)
      · exact .inr (.inr (.inr h))
    refine ⟨cell_kf hk (fun hg => hx x0 (by simp) (hin _ hg)) h0, cell_kf hk (fun hg => hx x1 (by simp) (hin _ hg)) h1, cell_kf hk (fun hg => hx x2 (by simp) (hin _ hg)) h2, cell_kf hk (fun hg => hx x3 (by simp) (hin _ hg)) h3, ?_⟩
    rw [← hc]
    exact World.cell?_of_block (hk.blk d (lt_of_block hd) (fun hg => hdm (hin _ hg)))
  have HS1 : Hid (∀ w2, Below W.heap.size W.drew w2 → w2.cell? ⟨x0, 0, none⟩ = some (.pointer (some ⟨m.p, 0, none⟩)) ∧ w2.cell? ⟨x1, 0, none⟩ = some (.pointer (some ⟨d, 0, none⟩)) ∧ w2.cell? ⟨x2, 0, none⟩ = some (.int .i64 (n : Int)) ∧ w2.cell? ⟨x3, 0, none⟩ = some v ∧ w2.cell? ⟨d, 2, none⟩ = some (.int .i64 (k : Int))) := hid (fun w2 hb2 => hS w2 (below_kf ⟨hb2.os, hb2.tape, hb2.output, hb2.size, hb2.block⟩))
  have HS2 : Hid (∀ w2, Wrt W m l ws ⟨k, no, n, pageB b⟩ w2 → w2.cell? ⟨x0, 0, none⟩ = some (.pointer (some ⟨m.p, 0, none⟩)) ∧ w2.cell? ⟨x1, 0, none⟩ = some (.pointer (some ⟨d, 0, none⟩)) ∧ w2.cell? ⟨x2, 0, none⟩ = some (.int .i64 (n : Int)) ∧ w2.cell? ⟨x3, 0, none⟩ = some v ∧ w2.cell? ⟨d, 2, none⟩ = some (.int .i64 (k : Int))) := hid (fun w2 ⟨_, _, _, _, _, hk, _⟩ => hS w2 hk)
  clear hS hd hc2 hfa hap hap' hdm a1 a2 a3 a4 a5 hx hv hpg hcs hC
  go_enter Tryz.func50, Tryz.ntmps50
  go_wp2_with fail
  have hs0 : (fun w' => w'.cell? ⟨x0, 0, none⟩ = some (.pointer (some ⟨m.p, 0, none⟩)) ∧ w'.cell? ⟨x1, 0, none⟩ = some (.pointer (some ⟨d, 0, none⟩)) ∧ w'.cell? ⟨x2, 0, none⟩ = some (.int .i64 (n : Int)) ∧ w'.cell? ⟨x3, 0, none⟩ = some v ∧ w'.cell? ⟨d, 2, none⟩ = some (.int .i64 (k : Int))) W.drew := ⟨h0, h1, h2, h3, hc⟩
  refine wp_region_held (S := fun w' => w'.cell? ⟨x0, 0, none⟩ = some (.pointer (some ⟨m.p, 0, none⟩)) ∧ w'.cell? ⟨x1, 0, none⟩ = some (.pointer (some ⟨d, 0, none⟩)) ∧ w'.cell? ⟨x2, 0, none⟩ = some (.int .i64 (n : Int)) ∧ w'.cell? ⟨x3, 0, none⟩ = some v ∧ w'.cell? ⟨d, 2, none⟩ = some (.int .i64 (k : Int))) (by kernel_rfl) ?_
  refine wpAnyH_take (i := 0) (oi := u0) (v := .pointer (some ⟨m.p, 0, none⟩)) rfl (by kernel_rfl) (by kernel_rfl) (by kernel_rfl) (fun _ _ _ h => h) (y_load rfl 61 (.tmp 0) rfl x0 0 rfl (fun w hw => load62 hw.1)) hs0 ?_
  refine wpAnyH_take (i := 1) (oi := u1) (v := .pointer (some ⟨d, 0, none⟩)) rfl (by kernel_rfl) (by kernel_rfl) (by kernel_rfl) (fun _ _ _ h => h) (y_load rfl 24 (.tmp 1) rfl x1 0 rfl (fun w hw => load29 hw.2.1)) hs0 ?_
  simp only [Act.put, u0, u1, List.setIfInBounds_toArray, List.set_cons_zero, List.set_cons_succ]
  refine wpAnyH_take (i := 2) (oi := u2) (v := .pointer (some ⟨d, 0, none⟩)) rfl (by kernel_rfl) (by kernel_rfl) (by kernel_rfl) (fun _ _ _ h => h) (y_all rfl (fun _ => rfl)) hs0 ?_
  simp only [Act.put, u2, List.setIfInBounds_toArray, List.set_cons_zero, List.set_cons_succ]
  refine wpAnyH_take (i := 3) (oi := u3) (v := .pointer (some ⟨d, 2, none⟩)) rfl (by kernel_rfl) (by kernel_rfl) (by kernel_rfl) (fun _ _ _ h => h) (y_all rfl (fun _ => by simp only [u3]; go_simp)) hs0 ?_
  simp only [Act.put, u3, List.setIfInBounds_toArray, List.set_cons_zero, List.set_cons_succ]
  refine wpAnyH_take (i := 4) (oi := u4) (v := .int .i64 (k : Int)) rfl (by kernel_rfl) (by kernel_rfl) (by kernel_rfl) (fun _ _ _ h => h) (y_load rfl 3 (.tmp 7) rfl d 2 rfl (fun w hw => load3 hw.2.2.2.2)) hs0 ?_
  refine wpAnyH_take (i := 5) (oi := u5) (v := .int .i64 (n : Int)) rfl (by kernel_rfl) (by kernel_rfl) (by kernel_rfl) (fun _ _ _ h => h) (y_load rfl 3 (.tmp 2) rfl x2 0 rfl (fun w hw => load3 hw.2.2.1)) hs0 ?_
  refine wpAnyH_take (i := 6) (oi := u6) (v := v) rfl (by kernel_rfl) (by kernel_rfl) (by kernel_rfl) (fun _ _ _ h => h) (y_load rfl 47 (.tmp 3) rfl x3 0 rfl (fun w hw => load23 hw.2.2.2.1)) hs0 ?_
  simp only [Act.put, u4, u5, u6, List.setIfInBounds_toArray, List.set_cons_zero, List.set_cons_succ]
  refine wpAnyH_all (rs := [7]) (by kernel_rfl) (by simp) (all1 ?_)
  refine op_call (o := u7) (f := 52) (args := #[v]) (R := fun v w' => v = .agg cs.toArray ∧ Below W.heap.size W.drew w') rfl rfl (by simp only [u7]; go_simp) (HPO.out.mono (by rintro e w' ⟨rfl, hb⟩; exact ⟨_, rfl, rfl, hb⟩)) ?_
  rintro _ w2 ⟨rfl, hb2⟩
  have hs0 := HS1.out w2 hb2
  have HW2 := hid (HW.out w2 ⟨hb2.os, hb2.tape, hb2.output, hb2.size, hb2.block⟩)
  refine ⟨hs0, ?_⟩
  simp only [Act.put, u7, List.setIfInBounds_toArray, List.set_cons_zero, List.set_cons_succ]
  refine wpAnyH_take (i := 8) (oi := u8) (v := .agg C.toArray) rfl (by kernel_rfl) (by kernel_rfl) (by kernel_rfl) (fun _ _ _ h => h) (y_build rfl 87 _ rfl #[(0, .int .i64 (k : Int)), (1, .int .i64 (n : Int)), (2, .agg cs.toArray)] (by simp [Act.eval]) hbd) hs0 ?_
  simp only [Act.put, u8, List.setIfInBounds_toArray, List.set_cons_zero, List.set_cons_succ]
  refine wpAnyH_all (rs := [9]) (by kernel_rfl) (by simp) (all1 ?_)
  refine op_call (o := u9) (f := 51) (args := #[.pointer (some ⟨m.p, 0, none⟩), .agg C.toArray]) (R := fun v w' => v = .tuple #[] ∧ Wrt W m l ws ⟨k, no, n, pageB b⟩ w') rfl rfl (by simp only [u9]; go_simp) (HW2.out.mono (by rintro e w' ⟨rfl, hb⟩; exact ⟨_, rfl, rfl, hb⟩)) ?_
  rintro _ w3 ⟨rfl, hwr⟩
  refine ⟨HS2.out w3 hwr, ?_⟩
  refine wpAnyH_done (by kernel_rfl) ?_ _
  refine bodyPost_end (results_none rfl _ _ _) rfl ?_
  exact ⟨rfl, hwr⟩
end Go.Proofs.YtojnembakhhgiaaGreat

/- The step of Write. -/
namespace Go.Proofs.YtojnembakhhgiaaGreat
open Go.RowKit

theorem eg42 : ∀ args w, (callFunc 50 args).run Tryz.prog w = .ok (.enter 50 args) w := Go.Proofs.enters_of Tryz.func50 (by kernel_rfl) rfl
/-- one write more -/
def addW (s0 s : Ds) (f : Df) (n : Nat) (b : Bs) : Ds := { s with opn := s.opn ++ [⟨s0.steps, f.no, n, pageB b⟩] }
theorem addW_ok {s s' : Ds} (h : Dok s) (e : stepD s = some s') {f : Df} (hf : f ∈ s.files) {n : Nat} {b : Bs} (hb : b.length ≤ 256) : Dok (addW s s' f n b) := by
  obtain ⟨h', e1, e2, e3, e4, e5, e6⟩ := step_ok h e
  refine ⟨h'.quota, h'.nos, h'.names, h'.lens, h'.few, h'.next, h'.pgs, fun w hw => ?_, ?_⟩
  · rcases List.mem_append.1 (show w ∈ s'.opn ++ [_] from hw) with hw | hw
    · exact h'.own w hw
    · simp at hw
      subst hw
      exact ⟨pageB_len hb, by show s.steps < s'.steps; omega, f, e1 ▸ hf, rfl⟩
  · show (List.map Dw.step (s'.opn ++ [_])).Pairwise (· < ·)
    rw [List.map_append, List.pairwise_append]
    refine ⟨h'.rise, by simp, fun a ha b hb => ?_⟩
    simp at hb
    subst hb
    obtain ⟨w, hw, rfl⟩ := List.mem_map.1 ha
    exact (h.own w (e2 ▸ hw)).2.1
theorem blocks_nodup {w : World} {d : Nat} {s : Ds} {mb : Option Nat} {ms : List Fm} (h : Dv w d s mb ms) {m : Fm} (hm : m ∈ ms) : m.blocks.Nodup ∧ d ∉ m.blocks ∧ ∀ g ∈ m.blocks, g ∈ Fp d mb ms := by
  have h1 := (List.nodup_cons.1 h.apart)
  have h2 := (List.nodup_append.1 h1.2).2.1
  have h3 : ∀ g ∈ m.blocks, g ∈ ms.flatMap Fm.blocks := fun g hg => List.mem_flatMap.2 ⟨m, hm, hg⟩
  refine ⟨?_, fun hd => h1.1 (by simp only [List.mem_append]; exact .inr (h3 d hd)), fun g hg => by unfold Fp; simp only [List.mem_cons, List.mem_append]; exact .inr (.inr (h3 g hg))⟩
  obtain ⟨i, hi, rfl⟩ := List.getElem_of_mem hm
  rw [flat_get Fm.blocks ms i hi] at h2
  exact (List.nodup_append.1 (List.nodup_append.1 h2).2.1).1
theorem write_step (w0 : World) (d : Nat) (s : Ds) (mb : Option Nat) (ms : List Fm) (h : Dv w0 d s mb ms) (hst : s.steps + 1 < 1000000) (hq : usedN s ≤ s.quota) (i : Nat) (hi : i < s.files.length) (x0 x1 x2 x3 n : Nat) (v : Value) (b : Bs)
    (hx : ∀ g ∈ [x0, x1, x2, x3], g ∉ Fp d mb ms) (h0 : w0.cell? ⟨x0, 0, none⟩ = some (.pointer (some ⟨(ms[i]'(by rw [h.len]; exact hi)).p, 0, none⟩))) (h1 : w0.cell? ⟨x1, 0, none⟩ = some (.pointer (some ⟨d, 0, none⟩))) (h2 : w0.cell? ⟨x2, 0, none⟩ = some (.int .i64 (n : Int))) (h3 : w0.cell? ⟨x3, 0, none⟩ = some v)
    (hv : Bo w0 v b) (hvF : ∀ g, v.ownBlock = some g → g ∉ Fp d mb ms) (hb : b.length ≤ 256) (hn : n ≤ (pagesOf s s.files[i]).length) :
    Calls Tryz.prog 44 #[.pointer (some ⟨d, 0, none⟩), .func (.func 50) #[] #[.pointer (some ⟨x0, 0, none⟩), .pointer (some ⟨x1, 0, none⟩), .pointer (some ⟨x2, 0, none⟩), .pointer (some ⟨x3, 0, none⟩)]] w0 fun e w' => e = .returned (.int .i64 ((doD s fun s' => addW s s' s.files[i] n b).1 : Int)) ∧ Left w0 d mb ms (doD s fun s' => addW s s' s.files[i] n b).2 w' := by
  have hil : i < ms.length := by rw [h.len]; exact hi
  unfold doD
  cases hs : stepD s with
  | none =>
    refine (step_crash w0 d s mb ms h hs _).mono ?_
    rintro e w' ⟨rfl, q1, q2⟩
    exact ⟨rfl, mb, ms, q1, q2.more (fun g hg => by simp at hg; subst hg; simp [Fp]), fun g hg => .inl hg⟩
  | some s' =>
    simp only
    have hfm : s.files[i] ∈ s.files := List.getElem_mem hi
    refine step_go w0 d s s' mb ms h hs 50 _ eg42 (Left w0 d mb ms (addW s s' s.files[i] n b)) ?_
    intro W hD hK
    have hbl := blocks_nodup hD (List.getElem_mem hil)
    have hpn : pagesOf (preD s) s.files[i] = pagesOf s s.files[i] := rfl
    have hfa : FileAt W (pagesOf s s.files[i]) s.files[i].settled (ofNo s.opn s.files[i].no) ms[i] := hD.fil i hi hil
    have hpl : (pagesOf s s.files[i]).length ≤ 65536 := Nat.le_trans (used_file hfm) (Nat.le_trans hq h.ok.quota)
    have hcell : ∀ g, g ∉ Fp d mb ms → ∀ u, w0.cell? ⟨g, 0, none⟩ = some u → W.cell? ⟨g, 0, none⟩ = some u := fun g hg u hu => cell_kf hK (fun hm => hg (by simp at hm; subst hm; simp [Fp])) hu
    have hws : (ofNo s.opn s.files[i].no).length ≤ 1000000 := by
      have h5 := opn_len h.ok
      have h6 : (ofNo s.opn s.files[i].no).length ≤ s.opn.length := List.length_filter_le _ _
      omega
    have hvW : Bo W v b := by
      by_cases hb0 : 0 < b.length
      · exact hv.kept (fun g e => hK.blk g (hv.lt hb0 e) (fun hm => hvF g e (by simp at hm; subst hm; simp [Fp])))
      · obtain ⟨ao, cap, rfl, _⟩ := hv
        exact ⟨ao, cap, rfl, fun hc => absurd hc hb0⟩
    refine (write1_any W d ms[i] (dcs (preD s) mb) _ _ _ s.steps n s.files[i].no v b hD.blk rfl hfa hbl.1 hbl.2.1 x0 x1 x2 x3 (hcell x0 (hx x0 (by simp)) _ h0) (hcell x1 (hx x1 (by simp)) _ h1) (hcell x2 (hx x2 (by simp)) _ h2) (hcell x3 (hx x3 (by simp)) _ h3) (fun g hg hg2 => hx g hg (hbl.2.2 g hg2)) hvW hb (pages_ok h.ok hfm) (by omega) (by omega) hws).mono ?_
    rintro e w' ⟨rfl, pv', ov', q1, q2, q3, q4, q5, q6, q7⟩
    have hin : ∀ g, g ∈ (ms[i].p :: (ob ms[i].pv ++ ob ms[i].ov)) → g ∈ ms[i].blocks := fun g hg => by
      unfold Fm.blocks
      simp only [List.mem_cons, List.mem_append] at hg ⊢
      rcases hg with h | h | h
      · exact .inl h
      · exact .inr (.inl h)
      · exact .inr (.inr (.inr h))
    have hdw : w'.heap[d]? = some (.cells (dcs (preD s) mb) 56 (0, 0)) := (q4.blk d (lt_of_block hD.blk) (fun hg => hbl.2.1 (hin _ hg))).trans hD.blk
    refine ⟨rfl, (cell_of_heap hdw 2).trans rfl, frozen_of_heap hdw 2, mb, ms.set i ⟨ms[i].p, pv', ms[i].sv, ov'⟩, ?_, ?_, ?_⟩
    · have hsteps : s'.steps = s.steps + 1 := (step_ok h.ok hs).2.2.2.1
      have hs'f : s'.files = s.files := (step_ok h.ok hs).2.1
      have hs'o : s'.opn = s.opn := (step_ok h.ok hs).2.2.1
      have hapB : (ms[i].p :: (ob ms[i].pv ++ (ob ms[i].sv ++ ob ms[i].ov))).Nodup := hbl.1
      obtain ⟨a1, a2⟩ := List.nodup_cons.1 hapB
      obtain ⟨a3, a4, a5⟩ := List.nodup_append.1 a2
      obtain ⟨a6, a7, a8⟩ := List.nodup_append.1 a4
      have hltm : ∀ g ∈ ms[i].blocks, g < W.heap.size := fun g hg => hfa.lt hg
      have hoth : ∀ j (hj : j < s.files.length), j ≠ i → ofNo (addW s s' s.files[i] n b).opn s.files[j].no = ofNo s.opn s.files[j].no := fun j hj hne => by
        show ofNo (s'.opn ++ [_]) s.files[j].no = ofNo s.opn s.files[j].no
        have hne2 : s.files[i].no ≠ s.files[j].no := fun e => hne (by
          have h7 := h.ok.nos
          have := (List.getElem_inj (xs := s.files.map Df.no) (i := i) (j := j) (h₀ := by simpa using hi) (h₁ := by simpa using hj) h7).1 (by simpa using e)
          exact this.symm)
        rw [ofNo_snoc, if_neg hne2, List.append_nil, hs'o]
      refine hD.upd1 (i := i) hi (f' := s.files[i]) (m' := ⟨ms[i].p, pv', ms[i].sv, ov'⟩) ?_ rfl rfl (fun j hj hne => ?_) ?_ ?_ (fun g hg hg2 hgd => ?_) (fun g hg => ?_) ?_ (addW_ok h.ok hs hfm hb) ⟨?_, ?_, ?_⟩
      · show s'.files = _
        rw [hs'f]
        exact (List.set_getElem_self hi).symm
      · exact hoth j hj hne
      · have e1 : ofNo (addW s s' s.files[i] n b).opn s.files[i].no = ofNo s.opn s.files[i].no ++ [⟨s.steps, s.files[i].no, n, pageB b⟩] := by
          show ofNo (s'.opn ++ [_]) s.files[i].no = _
          rw [ofNo_snoc, if_pos rfl, hs'o]
        have e2 : pagesOf (addW s s' s.files[i] n b) s.files[i] = lay (pagesOf s s.files[i]) n (pageB b) := by
          unfold pagesOf
          rw [e1, layAll_snoc]
        rw [e1, e2]
        have hpd : ms[i].p ≠ d := fun e => hbl.2.1 (by rw [← e]; simp [Fm.blocks])
        have hset : ∀ g, g ≠ d → (w'.setCell ⟨d, 2, none⟩ (.int .i64 ((s.steps + 1 : Nat) : Int))).heap[g]? = w'.heap[g]? := fun g hg => Below.heap_setCell _ _ _ _ hg
        have hgd : ∀ g, g ∈ ms[i].blocks ∨ W.heap.size ≤ g → g ≠ d := fun g hg e => by
          subst e
          rcases hg with hg | hg
          · exact hbl.2.1 hg
          · have := lt_of_block hD.blk
            omega
        refine ⟨(hset _ hpd).trans q1, ownsRow_same q2 (fun g hg => hset g (hgd g ?_)), ownsRow_same hfa.st (fun g hg => ?_), ownsRow_same q3 (fun g hg => hset g (hgd g ?_))⟩
        · rcases q5 g (mem_ob.2 hg) with h | h
          · exact .inl (by simp [Fm.blocks, h])
          · exact .inr h
        · have hgb : g ∈ ms[i].blocks := by have := mem_ob.2 hg; simp [Fm.blocks, this]
          rw [hset g (hgd g (.inl hgb))]
          refine q4.blk g (hltm g hgb) (fun hm => ?_)
          have hgs : g ∈ ob ms[i].sv := mem_ob.2 hg
          rcases List.mem_cons.1 hm with e | e
          · subst e
            exact a1 (by simp [hgs])
          · rcases List.mem_append.1 e with e | e
            · exact a5 g e g (by simp [hgs]) rfl
            · exact a8 g hgs g e rfl
        · rcases q6 g (mem_ob.2 hg) with h | h
          · exact .inl (by simp [Fm.blocks, h])
          · exact .inr h
      · rw [heap_setCell_same hdw 2 _]
        rw [step_is hs]
        rfl
      · rw [Below.heap_setCell _ _ _ _ hgd]
        exact q4.blk g (hD.lt hg) (fun hm => hg2 (hin g hm))
      · have hg' : g ∈ (ms[i].p :: (ob pv' ++ (ob ms[i].sv ++ ob ov'))) := hg
        simp only [List.mem_cons, List.mem_append] at hg'
        rcases hg' with e | e | e | e
        · exact .inl (by simp [Fm.blocks, e])
        · rcases q5 g e with h | h
          · exact .inl (by simp [Fm.blocks, h])
          · exact .inr h
        · exact .inl (by simp [Fm.blocks, e])
        · rcases q6 g e with h | h
          · exact .inl (by simp [Fm.blocks, h])
          · exact .inr h
      · show (ms[i].p :: (ob pv' ++ (ob ms[i].sv ++ ob ov'))).Nodup
        have hone : ∀ v : Value, (ob v).Nodup := fun v => by unfold ob; cases v.ownBlock <;> simp
        have hltS : ∀ g ∈ ob ms[i].sv, g < W.heap.size := fun g hg => hltm g (by simp [Fm.blocks, hg])
        have hpl2 : ms[i].p < W.heap.size := hltm _ (by simp [Fm.blocks])
        rw [List.nodup_cons, List.nodup_append, List.nodup_append]
        refine ⟨fun hm => ?_, hone _, ⟨hone _, hone _, fun a ha c hc e => ?_⟩, fun a ha c hc e => ?_⟩
        · simp only [List.mem_append] at hm
          rcases hm with e | e | e
          · rcases q5 _ e with h | h
            · exact a1 (by simp [h])
            · omega
          · exact a1 (by simp [e])
          · rcases q6 _ e with h | h
            · exact a1 (by simp [h])
            · omega
        · subst e
          rcases q6 a hc with h | h
          · exact a8 a ha a h rfl
          · have := hltS a ha
            omega
        · subst e
          rcases List.mem_append.1 hc with hc | hc
          · rcases q5 a ha with h | h
            · exact a5 a h a (by simp [hc]) rfl
            · have := hltS a hc
              omega
          · exact q7 a ha hc
      · show s'.steps < 1000000
        omega
      · have := hD.small.2.1
        rw [step_is hs]
        exact this
      · have := hD.small.2.2
        rw [step_is hs]
        exact this
    · refine Kf.trans (hK.more (fun g hg => by simp at hg; subst hg; simp [Fp])) ((q4.more (fun g hg => hbl.2.2 g (hin g hg))).trans (Kf.set (F := Fp d mb ms) w' (by simp [Fp]) _ _) (fun g hg => .inl hg)) (fun g hg => .inl hg)
    · intro g hg
      unfold Fp at hg ⊢
      rw [flat_set Fm.blocks ms i hil] at hg
      rw [flat_get Fm.blocks ms i hil]
      simp only [List.mem_cons, List.mem_append] at hg ⊢
      rcases hg with e | e | e | e | e
      · exact .inl (.inl e)
      · exact .inl (.inr (.inl e))
      · exact .inl (.inr (.inr (.inl e)))
      · have hg' : g ∈ (ms[i].p :: (ob pv' ++ (ob ms[i].sv ++ ob ov'))) := e
        simp only [List.mem_cons, List.mem_append] at hg'
        have hin2 : g ∈ ms[i].blocks → (g = d ∨ g ∈ mb.toList ∨ g ∈ List.flatMap Fm.blocks (List.take i ms) ∨ g ∈ ms[i].blocks ∨ g ∈ List.flatMap Fm.blocks (List.drop (i + 1) ms)) := fun h => .inr (.inr (.inr (.inl h)))
        rcases hg' with e | e | e | e
        · exact .inl (hin2 (by simp [Fm.blocks, e]))
        · rcases q5 g e with h | h
          · exact .inl (hin2 (by simp [Fm.blocks, h]))
          · exact .inr (Nat.le_trans hK.size h)
        · exact .inl (hin2 (by simp [Fm.blocks, e]))
        · rcases q6 g e with h | h
          · exact .inl (hin2 (by simp [Fm.blocks, h]))
          · exact .inr (Nat.le_trans hK.size h)
      · exact .inl (.inr (.inr (.inr (.inr e))))
end Go.Proofs.YtojnembakhhgiaaGreat

/- Write: the call. -/
namespace Go.Proofs.YtojnembakhhgiaaGreat
open Go.RowKit

theorem at_index {s : Ds} {ms : List Fm} {f : Df} {m : Fm} (h : (f, m) ∈ s.files.zip ms) : ∃ i, ∃ (hi : i < s.files.length) (hi' : i < ms.length), s.files[i] = f ∧ ms[i] = m := by
  obtain ⟨i, hi, e⟩ := List.getElem_of_mem h
  rw [List.length_zip] at hi
  rw [List.getElem_zip] at e
  exact ⟨i, by omega, by omega, congrArg Prod.fst e, congrArg Prod.snd e⟩
theorem dB (W : World) (k : Nat) : Below W.heap.size W (W.drewN k) := ⟨rfl, rfl, rfl, Nat.le_refl _, fun _ _ => rfl⟩
theorem hfa0 {w : World} {d : Nat} {s : Ds} {mb : Option Nat} {ms : List Fm} (h : Dv w d s mb ms) {f : Df} {m : Fm} (e0 : (f, m) ∈ s.files.zip ms) : m.p < w.heap.size := (h.filz _ e0).lt (by simp [Fm.blocks])
set_option maxRecDepth 100000 in
set_option maxHeartbeats 8000000 in
theorem write_call (w : World) (d : Nat) (s : Ds) (mb : Option Nat) (ms : List Fm) (h : Dv w d s mb ms) (hst : s.steps + 1 < 1000000) (hq : usedN s ≤ s.quota) (t : Bs) (htl : t.length ≤ 140737488355328) (n : Int) (hn : -9223372036854775808 ≤ n ∧ n < 9223372036854775808) (v : Value) (b : Bs) (hv : Bo w v b) (hvF : ∀ g, v.ownBlock = some g → g ∉ Fp d mb ms ∧ g < w.heap.size) (hbl : b.length ≤ 140737488355328) :
    Calls Tryz.prog 22 #[.pointer (some ⟨d, 0, none⟩), St t, .int .i64 n, v] w fun e w' => e = .returned (.int .i64 ((writeD s t n b).1 : Int)) ∧ Left w d mb ms (writeD s t n b).2 w' := by
  obtain ⟨w0, hw0⟩ : ∃ w0, w0 = ((w.alloc (.cells #[.pointer (some ⟨d, 0, none⟩)] 24)).alloc (.cells #[.int .i64 n] 3)).alloc (.cells #[v] 47) := ⟨_, rfl⟩
  have hb0 : Below w.heap.size w w0 := hw0 ▸ (((Below.refl _ _).alloc (Nat.le_refl _) _).alloc (by simp) _).alloc (by simp; omega) _
  have hD0 := h.low hb0
  have HFI := hid (find_any w0 d s mb ms hD0 t htl)
  obtain ⟨R, hR⟩ : ∃ R, R = writeD s t n b := ⟨_, rfl⟩
  rw [← hR]
  have HR := hid hR
  clear hR
  obtain ⟨ao, cap, rfl, hrest⟩ := id hv
  have HSA : Hid (∀ o, Left w d mb ms s (w0.alloc o)) := hid (fun o => Left.stay h (hb0.alloc hb0.size o))
  have cd : w0.cell? ⟨w.heap.size, 0, none⟩ = some (.pointer (some ⟨d, 0, none⟩)) := by
    rw [hw0]
    have := cell_of_heap (heap_alloc_new w (.cells #[.pointer (some ⟨d, 0, none⟩)] 24)) 0
    refine Eq.trans (World.cell?_of_block ?_) (this.trans rfl)
    rw [Below.heap_alloc _ _ _ (by simp; omega), Below.heap_alloc _ _ _ (by simp)]
  have cn : w0.cell? ⟨w.heap.size + 1, 0, none⟩ = some (.int .i64 n) := by
    rw [hw0]
    have := cell_of_heap (heap_alloc_new (w.alloc (.cells #[.pointer (some ⟨d, 0, none⟩)] 24)) (.cells #[.int .i64 n] 3)) 0
    have e : (w.alloc (.cells #[.pointer (some ⟨d, 0, none⟩)] 24)).heap.size = w.heap.size + 1 := by simp
    rw [e] at this
    refine Eq.trans (World.cell?_of_block ?_) (this.trans rfl)
    rw [Below.heap_alloc _ _ _ (by simp)]
  have cv : w0.cell? ⟨w.heap.size + 1 + 1, 0, none⟩ = some (.slice ao b.length cap) := by
    rw [hw0]
    have := cell_of_heap (heap_alloc_new ((w.alloc (.cells #[.pointer (some ⟨d, 0, none⟩)] 24)).alloc (.cells #[.int .i64 n] 3)) (.cells #[.slice ao b.length cap] 47)) 0
    have e : ((w.alloc (.cells #[.pointer (some ⟨d, 0, none⟩)] 24)).alloc (.cells #[.int .i64 n] 3)).heap.size = w.heap.size + 1 + 1 := by simp
    rw [e] at this
    exact this.trans rfl
  have hs0 : w0.heap.size = w.heap.size + 3 := by rw [hw0]; simp
  cases ho : s.off with
  | true =>
    rw [ho] at HFI
    have HRE : Hid (R = (7, s)) := hid (by rw [HR.out]; unfold writeD; rw [if_pos ho])
    clear h hrest
    go_enter Tryz.func22, Tryz.ntmps22
    go_wp2_with fail
    rw [← hw0]
    clear hw0
    go_wp2_with fail
    refine HFI.out.mono ?_
    rintro e w1 ⟨rfl, hw⟩
    subst hw
    go_wp2_with fail
    go_ret
    rw [HRE.out]
    exact ⟨rfl, HSA.out _⟩
  | false =>
    rw [ho] at HFI
    have hR1 : R = match findF s t with
      | none => (91, s)
      | some f => if 256 < b.length then (2, s) else if n < 0 ∨ ((pagesOf s f).length : Int) < n then (92, s)
        else if n = ((pagesOf s f).length : Int) ∧ s.quota ≤ usedN s then (93, s)
        else doD s fun s' => addW s s' f n.toNat b := by
      rw [HR.out]
      unfold writeD
      rw [if_neg (by rw [ho]; decide)]
      cases findF s t <;> rfl
    rcases find_at (s := s) h.len (t := t) with ⟨e1, e2⟩ | ⟨f, m, e0, e1, e2, e3⟩
    · rw [e1] at HFI
      rw [e2] at hR1
      have HRE : Hid (R = (91, s)) := hid hR1
      clear h hR1 e1 e2 hrest
      go_enter Tryz.func22, Tryz.ntmps22
      go_wp2_with fail
      rw [← hw0]
      clear hw0
      go_wp2_with fail
      refine HFI.out.mono ?_
      rintro e w1 ⟨rfl, hw⟩
      subst hw
      go_wp2_with fail
      go_ret
      rw [HRE.out]
      exact ⟨rfl, HSA.out _⟩
    · rw [e3] at HFI
      rw [e2] at hR1
      have hR2 : R = if 256 < b.length then (2, s) else if n < 0 ∨ ((pagesOf s f).length : Int) < n then (92, s)
        else if n = ((pagesOf s f).length : Int) ∧ s.quota ≤ usedN s then (93, s)
        else doD s fun s' => addW s s' f n.toNat b := hR1
      clear hR1
      by_cases h256 : 256 < b.length
      · have HRE : Hid (R = (2, s)) := hid (by rw [hR2, if_pos h256])
        have h4 : (256 : Int) < (b.length : Int) := by omega
        clear h hR2 e0 e1 e2 e3 hrest h256
        generalize b.length = bl at *
        generalize m.p = p at *
        go_enter Tryz.func22, Tryz.ntmps22
        go_wp2_with fail
        rw [← hw0]
        clear hw0
        go_wp2_with fail
        refine HFI.out.mono ?_
        rintro e w1 ⟨rfl, hw⟩
        subst hw
        go_wp2_with fail
        go_ret
        rw [HRE.out]
        exact ⟨rfl, HSA.out _⟩
      · rw [if_neg h256] at hR2
        have h4 : (b.length : Int) ≤ 256 := by omega
        obtain ⟨ix, hi, hi', ef, em⟩ := at_index e0
        have hfa := hD0.filz _ e0
        obtain ⟨ao2, cap2, hpv⟩ := row_shape hfa.pg
        have hpd : m.p < w.heap.size := hfa0 h e0
        obtain ⟨W1, hW1⟩ : ∃ W1, W1 = w0.alloc (.cells #[.pointer (some ⟨m.p, 0, none⟩)] 61) := ⟨_, rfl⟩
        have hb1 : Below w.heap.size w W1 := hW1 ▸ hb0.alloc hb0.size _
        have hold : ∀ g, g < w0.heap.size → W1.heap[g]? = w0.heap[g]? := fun g hg => by rw [hW1]; exact Below.heap_alloc _ _ _ hg
        have holdc : ∀ g u, g < w0.heap.size → w0.cell? ⟨g, 0, none⟩ = some u → W1.cell? ⟨g, 0, none⟩ = some u := fun g u hg hu => (World.cell?_of_block (hold g hg)).trans hu
        have cd1 : W1.cell? ⟨w.heap.size, 0, none⟩ = some (.pointer (some ⟨d, 0, none⟩)) := holdc _ _ (by omega) cd
        have cn1 : W1.cell? ⟨w.heap.size + 1, 0, none⟩ = some (.int .i64 n) := holdc _ _ (by omega) cn
        have cv1 : W1.cell? ⟨w.heap.size + 1 + 1, 0, none⟩ = some (.slice ao b.length cap) := holdc _ _ (by omega) cv
        have cf1 : W1.cell? ⟨w.heap.size + 3, 0, none⟩ = some (.pointer (some ⟨m.p, 0, none⟩)) := by rw [hW1, ← hs0]; exact (cell_of_heap (heap_alloc_new w0 _) 0).trans rfl
        have cp1 : W1.cell? ⟨m.p, 0, none⟩ = some (.slice ao2 (pagesOf s f).length cap2) := by
          refine holdc _ _ (by omega) ?_
          rw [← hpv]
          exact (cell_of_heap hfa.blk 0).trans rfl
        have cq1 : W1.cell? ⟨d, 0, none⟩ = some (.int .i64 (s.quota : Int)) := (cell_of_heap (h.low hb1).blk 0).trans rfl
        have HST : Hid (∀ W, Below w.heap.size w W → Left w d mb ms s W) := hid (fun W hB => Left.stay h hB)
        have HB1 := hid hb1
        have HUS : Hid (∀ W, Below W1.heap.size W1 W → Calls Tryz.prog 16 #[.pointer (some ⟨d, 0, none⟩)] W fun e w' => e = .returned (.int .i64 (usedN s : Int)) ∧ Below W1.heap.size W1 w') := hid (fun W hB => by
          have hbW : Below w.heap.size w W := ⟨hB.os.trans hb1.os, hB.tape.trans hb1.tape, hB.output.trans hb1.output, Nat.le_trans hb1.size hB.size, fun g hg => (hB.block g (Nat.lt_of_lt_of_le hg hb1.size)).trans (hb1.block g hg)⟩
          refine (used_any W d s mb ms (h.low hbW) hq).mono ?_
          rintro e w' ⟨rfl, hB2⟩
          exact ⟨rfl, hB2.os.trans hB.os, hB2.tape.trans hB.tape, hB2.output.trans hB.output, Nat.le_trans hB.size hB2.size, fun g hg => (hB2.block g (Nat.lt_of_lt_of_le hg hB.size)).trans (hB.block g hg)⟩)
        have HKS : Hid (∀ W, Below W1.heap.size W1 W → W.cell? ⟨w.heap.size, 0, none⟩ = some (.pointer (some ⟨d, 0, none⟩)) ∧ W.cell? ⟨w.heap.size + 1, 0, none⟩ = some (.int .i64 n) ∧ W.cell? ⟨w.heap.size + 3, 0, none⟩ = some (.pointer (some ⟨m.p, 0, none⟩)) ∧ W.cell? ⟨m.p, 0, none⟩ = some (.slice ao2 (pagesOf s f).length cap2) ∧ W.cell? ⟨d, 0, none⟩ = some (.int .i64 (s.quota : Int))) := hid (fun W hB => by
          have hz1 : W1.heap.size = w0.heap.size + 1 := by rw [hW1]; simp
          have hk : ∀ g u, g < W1.heap.size → W1.cell? ⟨g, 0, none⟩ = some u → W.cell? ⟨g, 0, none⟩ = some u := fun g u hg hu => (World.cell?_of_block (hB.block g hg)).trans hu
          have hd := lt_of_block h.blk
          exact ⟨hk _ _ (by omega) cd1, hk _ _ (by omega) cn1, hk _ _ (by omega) cf1, hk _ _ (by omega) cp1, hk _ _ (by omega) cq1⟩)
        have HSTEP : Hid (∀ W, Below W1.heap.size W1 W → 0 ≤ n → n ≤ ((pagesOf s f).length : Int) → Calls Tryz.prog 44 #[.pointer (some ⟨d, 0, none⟩), .func (.func 50) #[] #[.pointer (some ⟨w.heap.size + 3, 0, none⟩), .pointer (some ⟨w.heap.size, 0, none⟩), .pointer (some ⟨w.heap.size + 1, 0, none⟩), .pointer (some ⟨w.heap.size + 1 + 1, 0, none⟩)]] W fun e w' => e = .returned (.int .i64 ((doD s fun s' => addW s s' f n.toNat b).1 : Int)) ∧ Left w d mb ms (doD s fun s' => addW s s' f n.toNat b).2 w') := hid (fun W hB hn0 hnl => by
          have hbW : Below w.heap.size w W := ⟨hB.os.trans hb1.os, hB.tape.trans hb1.tape, hB.output.trans hb1.output, Nat.le_trans hb1.size hB.size, fun g hg => (hB.block g (Nat.lt_of_lt_of_le hg hb1.size)).trans (hb1.block g hg)⟩
          have hkeep : ∀ g u, g < W1.heap.size → W1.cell? ⟨g, 0, none⟩ = some u → W.cell? ⟨g, 0, none⟩ = some u := fun g u hg hu => (World.cell?_of_block (hB.block g hg)).trans hu
          have hz1 : W1.heap.size = w0.heap.size + 1 := by rw [hW1]; simp
          subst ef em
          have hFp : ∀ g, w.heap.size ≤ g → g ∉ Fp d mb ms := fun g hg hm => by have := h.lt hm; omega
          have := write_step W d s mb ms (h.low hbW) hst hq ix hi (w.heap.size + 3) w.heap.size (w.heap.size + 1) (w.heap.size + 1 + 1) n.toNat (.slice ao b.length cap) b (fun g hg => hFp g (by simp at hg; omega))
            (hkeep _ _ (by omega) cf1) (hkeep _ _ (by omega) cd1) (by rw [show ((n.toNat : Nat) : Int) = n by omega]; exact hkeep _ _ (by omega) cn1) (hkeep _ _ (by omega) cv1)
            (hv.low hbW) (fun g e => (hvF g e).1) (by omega) (by omega)
          refine this.mono ?_
          rintro e w' ⟨rfl, hL⟩
          exact ⟨rfl, hL.of hbW⟩)
        have hz1 : W1.heap.size = w0.heap.size + 1 := by rw [hW1]; simp
        have hq6 := h.ok.quota
        clear h hD0 hfa hpv e0 e1 e2 e3 hold holdc hb1 hrest hv hvF hbl h256 hst hi hi' ef em htl hb0
        clear ix
        have HWW := hid hW1
        have HC := hid (And.intro cd1 (And.intro cn1 (And.intro cv1 (And.intro cf1 (And.intro cp1 cq1)))))
        clear cd1 cn1 cv1 cf1 cp1 cq1 hW1 hz1
        generalize hL : (pagesOf s f).length = L at *
        generalize hBL : b.length = bl at *
        generalize m.p = p at *
        clear hBL hL
        go_enter Tryz.func22, Tryz.ntmps22
        go_wp2_with fail
        rw [← hw0]
        clear hw0
        go_wp2_with fail
        refine HFI.out.mono ?_
        rintro e w1 ⟨rfl, hw⟩
        subst hw
        go_wp2_with fail
        rw [← HWW.out]
        obtain ⟨cd1, cn1, cv1, cf1, cp1, cq1⟩ := HC.out
        clear HWW HC cd cn cv hs0
        by_cases h0 : n < 0
        · have HRE : Hid (R = (92, s)) := hid (by rw [hR2, if_pos (.inl h0)])
          clear hR2
          go_quiet (fail)
          go_wp2_with fail
          go_ret
          rw [HRE.out]
          exact ⟨rfl, HST.out _ (drewN_below HB1.out _)⟩
        · have hd0 : decide (n < 0) = false := by simpa using h0
          by_cases h1 : (L : Int) < n
          · have HRE : Hid (R = (92, s)) := hid (by rw [hR2, if_pos (.inr h1)])
            clear hR2
            go_quiet (fail)
            go_wp2_with fail
            go_ret
            rw [HRE.out]
            exact ⟨rfl, HST.out _ (drewN_below HB1.out _)⟩
          · have hd1 : decide ((L : Int) < n) = false := by simpa using h1
            rw [if_neg (by omega)] at hR2
            have HSP := hid (fun W hB => HSTEP.out W hB (by omega) (by omega))
            by_cases h2 : n = (L : Int)
            · have h3 : (n == (L : Int)) = true := by simpa using h2
              obtain ⟨U, hU⟩ : ∃ U : Int, U = (usedN s : Int) := ⟨_, rfl⟩
              obtain ⟨Qt, hQt⟩ : ∃ Qt : Int, Qt = (s.quota : Int) := ⟨_, rfl⟩
              rw [← hU] at HUS
              rw [← hQt] at HKS cq1
              go_quiet (fail)
              go_wp2_with fail
              go_region_held3 (fun W => W.cell? ⟨w.heap.size, 0, none⟩ = some (.pointer (some ⟨d, 0, none⟩)) ∧ W.cell? ⟨w.heap.size + 1, 0, none⟩ = some (.int .i64 n) ∧ W.cell? ⟨w.heap.size + 3, 0, none⟩ = some (.pointer (some ⟨p, 0, none⟩)) ∧ W.cell? ⟨p, 0, none⟩ = some (.slice ao2 L cap2) ∧ W.cell? ⟨d, 0, none⟩ = some (.int .i64 Qt)) (first | go_keep | assumption) (first | (go_at_call 16; refine (HUS.out _ (dB W1 _)).mono ?_; rintro e w2 ⟨rfl, hb2⟩; have hs2 := HKS.out w2 hb2; have HB2 := hid hb2; clear hb2))
              by_cases hqu : s.quota ≤ usedN s
              · have HRE : Hid (R = (93, s)) := hid (by rw [hR2, if_pos ⟨h2, hqu⟩])
                clear hR2
                go_wp2_with fail
                go_ret
                rw [HRE.out]
                refine ⟨rfl, HST.out _ ?_⟩
                have hB := HB2.out
                have hb1 := HB1.out
                exact ⟨hB.os.trans hb1.os, hB.tape.trans hb1.tape, hB.output.trans hb1.output, Nat.le_trans hb1.size hB.size, fun g hg => (hB.block g (Nat.lt_of_lt_of_le hg hb1.size)).trans (hb1.block g hg)⟩
              · have HRE : Hid (R = doD s fun s' => addW s s' f n.toNat b) := hid (by rw [hR2, if_neg (fun hc => hqu hc.2)])
                clear hR2
                go_wp2_with fail
                refine (HSP.out _ HB2.out).mono ?_
                rintro e w' ⟨rfl, hL⟩
                have HL := hid hL
                clear hL
                go_wp2_with fail
                go_ret
                rw [HRE.out]
                exact ⟨by rw [show n.toNat = L by omega]; rfl, HL.out⟩
            · have HRE : Hid (R = doD s fun s' => addW s s' f n.toNat b) := hid (by rw [hR2, if_neg (by omega)])
              have h3 : (n == (L : Int)) = false := by simpa using h2
              clear hR2
              go_quiet (fail)
              go_wp2_with fail
              go_quiet (fail)
              go_wp2_with fail
              refine (HSP.out _ (dB W1 _)).mono ?_
              rintro e w' ⟨rfl, hL⟩
              have HL := hid hL
              clear hL
              go_wp2_with fail
              go_ret
              rw [HRE.out]
              exact ⟨rfl, HL.out⟩
end Go.Proofs.YtojnembakhhgiaaGreat
