import Derived.Test.YtojnembakhhgiaaGreatRfAll
/- The document's disk: Read. -/
namespace Go.Proofs.YtojnembakhhgiaaGreat
open Go.RowKit

theorem string_bytes (w : World) (l : Bs) : ∃ cap w', (convert 9 47 (St l)).run Tryz.prog w = .ok (.slice (some ⟨w.heap.size, 0, none⟩) l.length cap) w' ∧ Bo w' (.slice (some ⟨w.heap.size, 0, none⟩) l.length cap) l ∧ Below w.heap.size w w' := by
  have hs : (⟨l.toArray⟩ : ByteArray).size = l.length := by simp [ByteArray.size]
  refine ⟨grownCap w l.length 0 5, Lib.bytesWorld w 5 ⟨l.toArray⟩, ?_, ⟨_, _, rfl, fun _ => ⟨w.heap.size, 0, rfl, fun j u hu => ?_⟩⟩, ?_⟩
  · have := Lib.run_convert_string_bytes (P := Tryz.prog) w 9 47 5 ⟨l.toArray⟩ Tryz.underlying9 Tryz.underlying47 Tryz.underlying5
    rw [hs] at this
    exact this
  · have hj : j < l.length := by have := (List.getElem?_eq_some_iff.1 hu).1; simpa [bcs] using this
    rw [Nat.zero_add, Lib.bytesWorld_cell w 5 ⟨l.toArray⟩ j (by rw [hs]; exact hj), ← hu]
    simp [bcs, hj]
  · exact ⟨rfl, rfl, rfl, by rw [Lib.bytesWorld_size]; exact Nat.le_succ _, fun k hk => Lib.bytesWorld_at_old w 5 ⟨l.toArray⟩ k hk⟩
set_option maxRecDepth 100000 in
set_option maxHeartbeats 4000000 in
theorem rread_any (w : World) (q : Nat) (s : Ds) (fv ov : Value) (ss : List Value) (h : Rv w q s fv ov ss) (hq : usedN s ≤ s.quota) (t : Bs) (n : Int) (hn : -9223372036854775808 ≤ n ∧ n < 9223372036854775808) :
    Calls Tryz.prog 33 #[.pointer (some ⟨q, 0, none⟩), St t, .int .i64 n] w fun e w' => (∃ v, e = .returned (.tuple #[v, .int .i64 ((readDk s t n).2 : Int)]) ∧ Bo w' v (readDk s t n).1 ∧ ∀ g, v.ownBlock = some g → w.heap.size ≤ g) ∧ Below w.heap.size w w' := by
  obtain ⟨i0, k0, hb, _⟩ := h.blk
  have c8 : w.cell? ⟨q, 8, none⟩ = some (.bool s.off) := (cell_of_heap hb 8).trans rfl
  have HFI := hid (rfind_any w q s fv ov ss h t)
  have HNIL : Hid (∀ W, Bo W (.slice none 0 0) [] ∧ ∀ g, (Value.slice none 0 0).ownBlock = some g → w.heap.size ≤ g) := hid (fun W => ⟨Bo.nil W, fun g e => (by cases e)⟩)
  obtain ⟨R, hR⟩ : ∃ R, R = readDk s t n := ⟨_, rfl⟩
  rw [← hR]
  cases ho : s.off with
  | true =>
    rw [ho] at c8
    have HRE : Hid (R = ([], 7)) := hid (by rw [hR]; unfold readDk; rw [if_pos ho])
    clear h hb hR
    go_enter Tryz.func33, Tryz.ntmps33
    go_wp2_with fail
    go_ret2
    rw [HRE.out]
    exact ⟨⟨_, rfl, HNIL.out _⟩, Below.refl _ _⟩
  | false =>
    rw [ho] at c8
    have hR1 : R = match findF s t with
      | none => ([], 91)
      | some f => if n < 0 ∨ ((pagesOf s f).length : Int) ≤ n then ([], 92) else ((pagesOf s f).getD n.toNat [], 0) := by
      rw [hR]
      unfold readDk
      rw [if_neg (by rw [ho]; decide)]
      cases findF s t <;> rfl
    cases hf : findF s t with
    | none =>
      rw [fidx_none hf] at HFI
      rw [hf] at hR1
      have HRE : Hid (R = ([], 91)) := hid hR1
      clear h hb hR hR1 hf
      go_enter Tryz.func33, Tryz.ntmps33
      go_wp2_with fail
      refine HFI.out.mono ?_
      rintro e w1 ⟨rfl, hw⟩
      subst hw
      go_wp2_with fail
      go_ret2
      rw [HRE.out]
      exact ⟨⟨_, rfl, HNIL.out _⟩, Below.refl _ _⟩
    | some f =>
      obtain ⟨ix, hi, e1, e2⟩ := fidx_some hf
      rw [e1] at HFI
      rw [hf] at hR1
      have hR2 : R = if n < 0 ∨ ((pagesOf s f).length : Int) ≤ n then ([], 92) else ((pagesOf s f).getD n.toNat [], 0) := hR1
      clear hR1
      obtain ⟨P, hP⟩ : ∃ P, P = pagesOf s f := ⟨_, rfl⟩
      rw [← hP] at hR2
      have HPG : Hid (Calls Tryz.prog 60 #[.pointer (some ⟨q, 0, none⟩), .int .i64 (ix : Int)] w fun e w' => ∃ v, e = .returned v ∧ Tx w' v P ∧ Below w.heap.size w w') := hid (by
        refine (rpages_any w q s fv ov ss h hq ix hi).mono ?_
        rintro e w' ⟨v, rfl, q1, q2, _⟩
        rw [e2, ← hP] at q1
        exact ⟨v, rfl, q1, q2⟩)
      have hi0 : ¬ (ix : Int) < 0 := by omega
      clear h hb hR hf e1 e2 hi hP
      by_cases hc : n < 0 ∨ (P.length : Int) ≤ n
      · have HRE : Hid (R = ([], 92)) := hid (by rw [hR2, if_pos hc])
        clear hR2
        by_cases h0 : n < 0
        · go_enter Tryz.func33, Tryz.ntmps33
          go_wp2_with fail
          refine HFI.out.mono ?_
          rintro e w1 ⟨rfl, hw⟩
          subst hw
          go_wp2_with fail
          refine HPG.out.mono ?_
          rintro e w2 ⟨v, rfl, htx, hb2⟩
          obtain ⟨ao, cap, rfl⟩ := row_shape htx
          have HB2 := hid hb2
          clear hb2 htx hc
          generalize P.length = l at *
          go_wp2_with fail
          go_ret2
          rw [HRE.out]
          exact ⟨⟨_, rfl, HNIL.out _⟩, HB2.out⟩
        · have h1 : (P.length : Int) ≤ n := by omega
          have hd0 : decide (n < 0) = false := by simpa using h0
          go_enter Tryz.func33, Tryz.ntmps33
          go_wp2_with fail
          refine HFI.out.mono ?_
          rintro e w1 ⟨rfl, hw⟩
          subst hw
          go_wp2_with fail
          refine HPG.out.mono ?_
          rintro e w2 ⟨v, rfl, htx, hb2⟩
          obtain ⟨ao, cap, rfl⟩ := row_shape htx
          have HB2 := hid hb2
          clear hb2 htx hc
          generalize P.length = l at *
          go_wp2_with fail
          go_ret2
          rw [HRE.out]
          exact ⟨⟨_, rfl, HNIL.out _⟩, HB2.out⟩
      · obtain ⟨k, rfl⟩ : ∃ k : Nat, n = (k : Int) := ⟨n.toNat, by omega⟩
        have hkl : k < P.length := by omega
        have HRE : Hid (R = (P[k], 0)) := hid (by
          rw [hR2, if_neg hc, show ((k : Int)).toNat = k by omega, List.getD_eq_getElem?_getD, List.getElem?_eq_getElem hkl]
          rfl)
        obtain ⟨pg, hpg⟩ : ∃ pg, pg = P[k] := ⟨_, rfl⟩
        rw [← hpg] at HRE
        have h0 : ¬ (k : Int) < 0 := by omega
        have hd0 : decide ((k : Int) < 0) = false := decide_eq_false h0
        have h1 : ¬ (P.length : Int) ≤ (k : Int) := by omega
        have hk0 : (0 : Int) ≤ (k : Int) := Int.natCast_nonneg _
        have hk1 : (k : Int) < (P.length : Int) := by omega
        go_enter Tryz.func33, Tryz.ntmps33
        go_wp2_with fail
        refine HFI.out.mono ?_
        rintro e w1 ⟨rfl, hw⟩
        subst hw
        go_wp2_with fail
        refine HPG.out.mono ?_
        rintro e w2 ⟨v, rfl, htx, hb2⟩
        obtain ⟨g, cap, rfl, _, hcell⟩ := htx.at' (by omega)
        have ck : w2.cell? ⟨g, k, none⟩ = some (St pg) := by rw [hpg]; exact (hcell k hkl).1
        obtain ⟨cp, w3, hcv, hbo, hb3⟩ := string_bytes w2 pg
        have HB : Hid (Below w1.heap.size w1 w3) := hid (below_comp hb2 hb3)
        have HBO := hid hbo
        have HZ := hid hb2.size
        clear hb2 htx hc hcell hbo hb3 hpg hkl hR2
        generalize P.length = l at *
        go_wp2_with fail
        go_ret2
        rw [HRE.out]
        exact ⟨⟨_, rfl, HBO.out, fun g e => by cases e; exact HZ.out⟩, HB.out⟩
end Go.Proofs.YtojnembakhhgiaaGreat

/- A region that draws its order: a condition that holds till its last store. -/
namespace Go.Proofs.YtojnembakhhgiaaGreat
open Go.RowKit

section
variable {P : Program} {ops : Array Oper} {Q : Exit → Act → World → Prop} {S : World → Prop} {md : Region.Mode} {z : Nat}
/-- whatever order is drawn, S holding behind all but number z -/
def wpZ (P : Program) (md : Region.Mode) (ops : Array Oper) (Q : Exit → Act → World → Prop) (S : World → Prop) (z : Nat) : Nat → Array Bool → Act → World → Prop
  | 0, l, a, w => Region.ready md ops l = [] ∧ Q .normal a w
  | n + 1, l, a, w => (Region.ready md ops l = [] → Q .normal a w) ∧ ∀ i ∈ Region.ready md ops l, wpOp P ops Q i (fun a' w' => (i ≠ z → S w') ∧ wpZ P md ops Q S z n (l.setIfInBounds i true) a' w') a w
theorem any_of_z : ∀ (n : Nat) (l : Array Bool) (a : Act) (w : World), wpZ P md ops Q S z n l a w → wpAny P md ops Q n l a w
  | 0, _, _, _, h => h
  | n + 1, _, _, _, h => ⟨h.1, fun i hi => wpOp_mono (fun a' w' h' => any_of_z n _ a' w' h'.2) (h.2 i hi)⟩
/-- does number z wait for number i? -/
def waitsFor (md : Region.Mode) (ops : Array Oper) (z i : Nat) : Bool := ((ops[z]?).map fun o => o.after.any fun e => Region.binds md e && e.on == i).getD false
theorem waits_spec {i j : Nat} {l : Array Bool} (hw : waitsFor md ops z i = true) (hj : j ∈ Region.ready md ops l) (hi : l.getD i true = false) : j ≠ z := fun e => by
  subst e
  obtain ⟨_, o, ho, ha⟩ := mem_ready.1 hj
  unfold waitsFor at hw
  rw [ho] at hw
  obtain ⟨e, he, hb⟩ := Array.any_eq_true'.1 (show (o.after.any fun e => Region.binds md e && e.on == i) = true from hw)
  rw [Bool.and_eq_true, beq_iff_eq] at hb
  have h1 := ha e he hb.1
  rw [hb.2] at h1
  rcases Nat.lt_or_ge i l.size with h' | h'
  · simp [h'] at hi h1
    rw [hi] at h1
    cases h1
  · simp [Array.getElem?_eq_none h'] at h1
theorem z_first {i : Nat} {oi : Oper} {v : Value} (hi : ops[i]? = some oi) (hsel : ∀ (j : Nat) (o : Oper) cs b, ops[j]? = some o → o.op ≠ .select cs b) (hQ : ∀ c a w, Q (.panic c) (a.put oi.dst v) w → Q (.panic c) a w) (hz : waitsFor md ops z i = true) (hiz : i ≠ z) :
    ∀ (n : Nat) (l : Array Bool) (a : Act) (w : World), (∀ j oj, ops[j]? = some oj → j ≠ i → l.getD j true = false → (∀ e ∈ oj.after, Region.binds md e = true → e.on ≠ i) → oi.apart ops oj = true) → i ∈ Region.ready md ops l → YieldsIf P ops S oi v a → S w → wpZ P md ops Q S z n (l.setIfInBounds i true) (a.put oi.dst v) w → wpZ P md ops Q S z (n + 1) l a w := by
  intro n
  induction n with
  | zero =>
    intro l a w _ hr hy hS H
    refine ⟨fun h => (by rw [h] at hr; cases hr), fun j hj => ?_⟩
    by_cases e : j = i
    · subst e
      exact hy.wpOp hi hS ⟨fun _ => hS, H⟩
    · have := ready_mono hj e
      rw [H.1] at this
      cases this
  | succ n ih =>
    intro l a w hfree hr hy hS H
    refine ⟨fun h => (by rw [h] at hr; cases hr), fun j hj => ?_⟩
    by_cases e : j = i
    · subst e
      exact hy.wpOp hi hS ⟨fun _ => hS, H⟩
    · have hun := (mem_ready.1 hr).1
      have hjz := waits_spec hz hj hun
      obtain ⟨hjun, oj, hoj, hall⟩ := mem_ready.1 hj
      have hnot : ∀ e ∈ oj.after, Region.binds md e = true → e.on ≠ i := fun e he hb heq => by
        have h1 := hall e he hb
        rw [heq] at h1
        rcases Nat.lt_or_ge i l.size with h' | h'
        · simp [h'] at hun h1
          rw [hun] at h1
          cases h1
        · simp [Array.getElem?_eq_none h'] at h1
      have h2 := wpOp_putIf hoj (hfree j oj hoj e hjun hnot) (fun cs b => hsel i oi cs b hi) (fun cs b => hsel j oj cs b hoj) hQ hy (H.2 j (ready_mono hj e))
      refine wpOp_mono (fun a' w' h3 => ⟨fun _ => h3.2.1 hjz, ih (l.setIfInBounds j true) a' w' (fun k ok hk hki hunk hno => ?_) (ready_mono hr (Ne.symm e)) h3.1 (h3.2.1 hjz) ?_⟩) h2
      · refine hfree k ok hk hki ?_ hno
        by_cases hjk : j = k
        · subst hjk; exact hjun
        · rw [getD_set_ne true hjk] at hunk; exact hunk
      · rw [Array.setIfInBounds_comm _ _ e]
        exact h3.2.2
theorem z_take {i : Nat} {oi : Oper} {v : Value} {n : Nat} {l : Array Bool} {a : Act} {w : World} (hi : ops[i]? = some oi) (hs : Region.noSelect ops = true) (hf : Region.free md ops l i = true) (hr : (Region.ready md ops l).contains i = true) (hQ : ∀ c a w, Q (.panic c) (a.put oi.dst v) w → Q (.panic c) a w) (hz : waitsFor md ops z i = true) (hiz : i ≠ z) (hy : YieldsIf P ops S oi v a) (hS : S w)
    (h : wpZ P md ops Q S z n (l.setIfInBounds i true) (a.put oi.dst v) w) : wpZ P md ops Q S z (n + 1) l a w :=
  z_first hi (Region.noSelect_spec hs) hQ hz hiz n l a w (Region.free_spec hi hf) (by simpa using hr) hy hS h
theorem z_all {rs : List Nat} {n : Nat} {l : Array Bool} {a : Act} {w : World} (hr : Region.ready md ops l = rs) (hne : rs ≠ []) (h : ∀ i ∈ rs, wpOp P ops Q i (fun a' w' => (i ≠ z → S w') ∧ wpZ P md ops Q S z n (l.setIfInBounds i true) a' w') a w) : wpZ P md ops Q S z (n + 1) l a w :=
  ⟨fun h0 => absurd (hr ▸ h0) hne, hr ▸ h⟩
theorem z_done {l : Array Bool} {a : Act} {w : World} (hr : Region.ready md ops l = []) (h : Q .normal a w) : ∀ n, wpZ P md ops Q S z n l a w
  | 0 => ⟨hr, h⟩
  | _ + 1 => ⟨fun _ => h, by rw [hr]; simp⟩
theorem region_z {id : Nat} {a : Act} {w : World} (S : World → Prop) (z : Nat) (hm : P.follows .mixedOrders = true) (h : wpZ P .any ops Q S z ops.size (Array.replicate ops.size false) a w.drew) : (Code.region id ops true).wp P Q a w :=
  wp_region_any hm (any_of_z _ _ _ _ h)
theorem op_append {i : Nat} {o : Oper} {a : Act} {w w' : World} {v xv v' : Value} {K : Act → World → Prop} (ho : ops[i]? = some o) (hg : o.guard = none) (s x : Operand) (t : TypeId) (hop : o.op = .call { callee := .builtin .append, args := #[s, x], argTypes := #[t, t] }) (hs : a.eval s = v) (hx : a.eval x = xv) (hrun : ∀ ty, (Builtin.append_ #[t, t] ty #[v, xv]).run P w = .ok v' w') (hK : K (a.put o.dst v') w') : wpOp P ops Q i K a w := by
  refine op_ok ho hg ?_ hK
  unfold execOp
  simp [hop, resolve, invoke, builtin, hs, hx, hrun, Result.andThen]
end
end Go.Proofs.YtojnembakhhgiaaGreat
