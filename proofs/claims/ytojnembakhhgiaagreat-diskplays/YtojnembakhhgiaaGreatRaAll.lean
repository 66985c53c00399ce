import Derived.Test.YtojnembakhhgiaaGreatOnP
/- The document's disk in memory. -/
namespace Go.Proofs.YtojnembakhhgiaaGreat
open Go.RowKit

/-- a file and a write of the document's, as cells -/
abbrev fc (f : Df) (v : Value) : List Value := [.int .i64 (f.no : Int), St f.name, v]
abbrev oc (x : Dw) : List Value := [.int .i64 (x.no : Int), .int .i64 (x.at' : Int), St x.pg]
def fcs (l : List (Df × Value)) : List Value := l.flatMap fun x => fc x.1 x.2
def ocs (l : List Dw) : List Value := l.flatMap oc
/-- texts lie there -/
abbrev Tx (w : World) (v : Value) (l : List Bs) : Prop := w.ownsRow 0 9 1 v l.length (l.map fun b => St b)
structure Rv (w : World) (q : Nat) (s : Ds) (fv ov : Value) (ss : List Value) : Prop where
  blk : ∃ i k : Nat, w.heap[q]? = some (.cells #[fv, ov, .int .i64 (s.next : Int), .int .i64 (s.quota : Int), .int .i64 (s.steps : Int), .bool s.set, .int .i64 (i : Int), .int .u64 (k : Int), .bool s.off] 60 (0, 0)) ∧ (s.set = true → i = s.inn ∧ k = s.keep) ∧ i < 9223372036854775808 ∧ k < 18446744073709551616
  len : ss.length = s.files.length
  fil : w.ownsRow 0 92 3 fv s.files.length (fcs (s.files.zip ss))
  set : ∀ x ∈ s.files.zip ss, Tx w x.2 x.1.settled
  opn : w.ownsRow 0 95 3 ov s.opn.length (ocs s.opn)
  ap1 : q ∉ ob fv ∧ q ∉ ob ov ∧ ∀ g ∈ ob fv, g ∉ ob ov
  ap2 : ∀ v ∈ ss, ∀ g ∈ ob v, g ∉ q :: (ob fv ++ ob ov)
  ok : Dok s
  off : s.off = true → s.set = true
  small : s.steps < 1000000 ∧ s.next < 1000000
/-- the blocks that a call may change, and those that are only read -/
def Rm (q : Nat) (fv ov : Value) : List Nat := q :: (ob fv ++ ob ov)
def Rr (ss : List Value) : List Nat := ss.flatMap ob
theorem Rv.same {w w' : World} {q : Nat} {s : Ds} {fv ov : Value} {ss : List Value} (h : Rv w q s fv ov ss) (hh : ∀ g ∈ Rm q fv ov ++ Rr ss, w'.heap[g]? = w.heap[g]?) : Rv w' q s fv ov ss := by
  obtain ⟨i, k, h1, h2⟩ := h.blk
  refine ⟨⟨i, k, (hh q (by simp [Rm])).trans h1, h2⟩, h.len, ownsRow_same h.fil (fun g hg => hh g (by have := mem_ob.2 hg; simp [Rm, this])), fun x hx => ownsRow_same (h.set x hx) (fun g hg => hh g (by
    rw [List.mem_append]
    exact .inr (List.mem_flatMap.2 ⟨x.2, (List.of_mem_zip hx).2, mem_ob.2 hg⟩))), ownsRow_same h.opn (fun g hg => hh g (by have := mem_ob.2 hg; simp [Rm, this])), h.ap1, h.ap2, h.ok, h.off, h.small⟩
theorem Rv.lt {w : World} {q : Nat} {s : Ds} {fv ov : Value} {ss : List Value} (h : Rv w q s fv ov ss) {g : Nat} (hg : g ∈ Rm q fv ov ++ Rr ss) : g < w.heap.size := by
  obtain ⟨i, k, h1, _⟩ := h.blk
  rcases List.mem_append.1 hg with hg | hg
  · unfold Rm at hg
    simp only [List.mem_cons, List.mem_append] at hg
    rcases hg with e | e | e
    · rw [e]; exact lt_of_block h1
    · exact (h.fil.lt g (mem_ob.1 e)).2
    · exact (h.opn.lt g (mem_ob.1 e)).2
  · obtain ⟨v, hv, hg⟩ := List.mem_flatMap.1 hg
    obtain ⟨j, hj, rfl⟩ := List.getElem_of_mem hv
    have hj2 : j < s.files.length := by rw [← h.len]; exact hj
    have hz : (s.files[j], ss[j]) ∈ s.files.zip ss := by
      have : (s.files.zip ss)[j]'(by rw [List.length_zip]; omega) = (s.files[j], ss[j]) := by rw [List.getElem_zip]
      rw [← this]
      exact List.getElem_mem _
    exact ((h.set _ hz).lt g (mem_ob.1 hg)).2
theorem Rv.low {w w' : World} {q : Nat} {s : Ds} {fv ov : Value} {ss : List Value} (h : Rv w q s fv ov ss) (hb : Below w.heap.size w w') : Rv w' q s fv ov ss := h.same (fun g hg => hb.block g (h.lt hg))
/-- what a call leaves -/
def Rleft (w : World) (q : Nat) (fv ov : Value) (ss : List Value) (s' : Ds) (w' : World) : Prop := ∃ fv' ov' ss', Rv w' q s' fv' ov' ss' ∧ Kf (Rm q fv ov) w w' ∧ ∀ g ∈ Rm q fv' ov' ++ Rr ss', g ∈ Rm q fv ov ++ Rr ss ∨ w.heap.size ≤ g
theorem Rleft.stay {w w' : World} {q : Nat} {s : Ds} {fv ov : Value} {ss : List Value} (h : Rv w q s fv ov ss) (hb : Below w.heap.size w w') : Rleft w q fv ov ss s w' := ⟨fv, ov, ss, h.low hb, below_kf hb, fun _ hg => .inl hg⟩
theorem rnamed_any (w : World) (t : Bs) : Calls Tryz.prog 57 #[St t] w fun e w' => e = .returned (.bool (named t)) ∧ w' = w := by
  have hs : (⟨t.toArray⟩ : ByteArray).size = t.length := by simp [ByteArray.size]
  have e1 : named t = (decide ((1 : Int) ≤ (t.length : Int)) && decide ((t.length : Int) ≤ 100)) := by
    unfold named
    rw [Bool.eq_iff_iff]
    simp
    omega
  rw [e1]
  clear e1
  by_cases h1 : (1 : Int) ≤ (t.length : Int)
  · go_enter Tryz.func57, Tryz.ntmps57
    go_wp2_with fail
    go_ret
    exact ⟨by simp [h1], rfl⟩
  · have h2 : decide ((1 : Int) ≤ (t.length : Int)) = false := by simpa using h1
    go_enter Tryz.func57, Tryz.ntmps57
    go_wp2_with fail
    go_ret
    exact ⟨rfl, rfl⟩
theorem rnew_any (w : World) (q : Int) : Calls Tryz.prog 7 #[.int .i64 q] w fun e w' => e = .returned (.pointer (some ⟨w.heap.size, 0, none⟩)) ∧ Rv w' w.heap.size (newD q) (.slice none 0 0) (.slice none 0 0) [] ∧ Below w.heap.size w w' := by
  have HD : Hid (∀ x : Int, x = min (max q 0) 65536 → Rv (w.alloc (.cells #[.slice none 0 0, .slice none 0 0, .int .i64 0, .int .i64 x, .int .i64 0, .bool false, .int .i64 0, .int .u64 0, .bool false] 60)) w.heap.size (newD q) (.slice none 0 0) (.slice none 0 0) []) := hid (fun x hx => by
    refine ⟨⟨0, 0, ?_, fun h => (by cases h), by omega, by omega⟩, rfl, World.ownsRow_nil _ _ _ _, fun x hx => (by cases hx), World.ownsRow_nil _ _ _ _, ⟨fun h => (by cases h), fun h => (by cases h), fun g h => (by cases h)⟩, fun v hv => (by cases hv), new_ok q, fun h => (by cases h), ⟨by show 0 < 1000000; omega, by show 0 < 1000000; omega⟩⟩
    rw [heap_alloc_new]
    show _ = some (Obj.cells #[.slice none 0 0, .slice none 0 0, .int .i64 ((0 : Nat) : Int), .int .i64 (((min (max q 0) 65536).toNat : Nat) : Int), .int .i64 ((0 : Nat) : Int), .bool false, .int .i64 ((0 : Nat) : Int), .int .u64 ((0 : Nat) : Int), .bool false] 60 (0, 0))
    rw [← hx, show (x.toNat : Int) = x by omega]
    rfl)
  go_enter Tryz.func7, Tryz.ntmps7
  go_wp2_with fail
  all_goals
    go_ret
    exact ⟨rfl, HD.out _ (by omega), (Below.refl _ _).alloc (Nat.le_refl _) _⟩
end Go.Proofs.YtojnembakhhgiaaGreat

/- The document's disk: find, a step, Fail. -/
namespace Go.Proofs.YtojnembakhhgiaaGreat
open Go.RowKit

theorem flat_len' {α : Type} {f : α → List Value} {sz : Nat} (hf : ∀ x, (f x).length = sz) : ∀ l : List α, (l.flatMap f).length = l.length * sz
  | [] => by simp
  | a :: l => by
    rw [List.flatMap_cons, List.length_append, hf, flat_len' hf l, List.length_cons, Nat.add_mul]
    omega
theorem flat_at {α : Type} {f : α → List Value} {sz : Nat} (hf : ∀ x, (f x).length = sz) : ∀ (l : List α) (k : Nat) (hk : k < l.length) (j : Nat), j < sz → (l.flatMap f)[k * sz + j]? = (f l[k])[j]?
  | [], k, hk, _, _ => by simp at hk
  | a :: l, 0, _, j, hj => by
    rw [List.flatMap_cons, List.getElem?_append_left (by rw [hf]; omega)]
    simp
  | a :: l, k + 1, hk, j, hj => by
    rw [List.flatMap_cons, List.getElem?_append_right (by rw [hf, Nat.add_mul]; omega), hf, show (k + 1) * sz + j - sz = k * sz + j by rw [Nat.add_mul]; omega, flat_at hf l k (by simpa using hk) j hj]
    rfl
/-- the cells of a row of structs -/
theorem row_cells {α : Type} {f : α → List Value} {sz : Nat} (hf : ∀ x, (f x).length = sz) {w : World} {e : TypeId} {v : Value} {l : List α} (h : w.ownsRow 0 e sz v l.length (l.flatMap f)) (h0 : 0 < l.length) : ∃ g cap, v = .slice (some ⟨g, 0, none⟩) l.length cap ∧ l.length ≤ cap ∧ ∀ k (hk : k < l.length) j, j < sz → w.cell? ⟨g, k * sz + j, none⟩ = (f l[k])[j]? := by
  rcases h.2 with ⟨_, h2⟩ | ⟨g, cap, cur, h1, _, h3, h4, h5, h6, h7⟩
  · omega
  · refine ⟨g, cap, h1, h4, fun k hk j hj => ?_⟩
    have hlt : k * sz + j < l.length * sz := by
      have : (k + 1) * sz ≤ l.length * sz := Nat.mul_le_mul_right sz hk
      rw [Nat.add_mul] at this
      omega
    rw [cell_of_heap h3, ← Array.getElem?_toList, ← flat_at hf l k hk j hj, ← h7, List.getElem?_take, if_pos hlt]
def fidx (s : Ds) (t : Bs) : Int := if s.files.any (fun f => f.name == t) then (s.files.findIdx (fun f => f.name == t) : Int) else -1
theorem fidx_none {s : Ds} {t : Bs} (h : findF s t = none) : fidx s t = -1 := by
  unfold fidx
  rw [if_neg]
  rw [List.any_eq_true]
  rintro ⟨f, hf, e⟩
  exact find_none h f hf (by simpa using e)
theorem fidx_some {s : Ds} {t : Bs} {f : Df} (h : findF s t = some f) : ∃ i, ∃ hi : i < s.files.length, fidx s t = (i : Int) ∧ s.files[i] = f := by
  unfold findF at h
  obtain ⟨h1, i, hi, h2, h3⟩ := List.find?_eq_some_iff_getElem.1 h
  have ha : s.files.any (fun f => f.name == t) = true := List.any_eq_true.2 ⟨f, by rw [← h2]; exact List.getElem_mem hi, h1⟩
  have h4 : s.files.findIdx (fun f => f.name == t) = i := by
    rw [List.findIdx_eq hi]
    refine ⟨by rw [h2]; exact h1, fun k hk => ?_⟩
    have := h3 k hk
    simpa using this
  exact ⟨i, hi, by unfold fidx; rw [if_pos ha, h4], h2⟩
theorem fc_len (x : Df × Value) : (fc x.1 x.2).length = 3 := rfl
theorem oc_len (x : Dw) : (oc x).length = 3 := rfl
set_option maxRecDepth 100000 in
set_option maxHeartbeats 4000000 in
theorem rfind_any (w : World) (q : Nat) (s : Ds) (fv ov : Value) (ss : List Value) (h : Rv w q s fv ov ss) (t : Bs) :
    Calls Tryz.prog 58 #[.pointer (some ⟨q, 0, none⟩), St t] w fun e w' => e = .returned (.int .i64 (fidx s t)) ∧ w' = w := by
  obtain ⟨i0, k0, hb, _⟩ := h.blk
  have hfew := h.ok.few
  have c0 : w.cell? ⟨q, 0, none⟩ = some fv := (cell_of_heap hb 0).trans rfl
  obtain ⟨ao, cap, hfv⟩ := row_shape h.fil
  obtain ⟨n, hn⟩ : ∃ n, n = s.files.length := ⟨_, rfl⟩
  rw [hfv, ← hn] at c0
  have HH := hid h
  have HFV := hid hfv
  have HN := hid hn
  have hnb : (n : Int) ≤ 256 := by omega
  have HNB : Hid (n ≤ 256) := hid (by omega)
  clear h hb hfew hfv hn
  go_enter Tryz.func58, Tryz.ntmps58
  go_wp2_with fail
  go_loopg [5] n (fun gg vj wr => ∃ j : Nat, gg = n - j ∧ j ≤ n ∧ vj = .int .i64 (j : Int) ∧ wr = w ∧ ∀ f ∈ s.files.take j, f.name ≠ t)
  case atStart => exact ⟨0, rfl, Nat.zero_le _, rfl, rfl, fun f hf => (by simp at hf)⟩
  case round =>
    obtain ⟨j, rfl, hj, rfl, rfl, hno⟩ := hrel
    by_cases hjl : j < n
    · have hjs : j < s.files.length := by have := HN.out; omega
      have hzl : (s.files.zip ss).length = s.files.length := by rw [List.length_zip, HH.out.len]; omega
      have hrow : wr.ownsRow 0 92 3 fv (s.files.zip ss).length ((s.files.zip ss).flatMap fun x => fc x.1 x.2) := by rw [hzl]; exact HH.out.fil
      obtain ⟨g, cap', hv, _, hcell⟩ := row_cells fc_len hrow (by omega)
      rw [hzl] at hv
      have ha : ao = some ⟨g, 0, none⟩ := by
        have h1 := HFV.out
        rw [hv] at h1
        cases h1
        rfl
      subst ha
      have hc1 := hcell j (by omega) 1 (by omega)
      rw [List.getElem_zip] at hc1
      obtain ⟨nm, hnm⟩ : ∃ nm, nm = (s.files[j]'hjs).name := ⟨_, rfl⟩
      have c1 : wr.cell? ⟨g, j * 3 + 1, none⟩ = some (St nm) := by rw [hc1, hnm]; rfl
      have hjw : IntKind.i64.wrap ((j : Int) + 1) = ((j + 1 : Nat) : Int) := by rw [IntKind.wrap_i64]; have := HNB.out; omega
      have hj0 : (0 : Int) ≤ (j : Int) := Int.natCast_nonneg _
      have hj1 : (j : Int) < (n : Int) := by omega
      by_cases e : nm = t
      · have HE : Hid (fidx s t = (j : Int)) := hid (by
          have ha : s.files.any (fun f => f.name == t) = true := List.any_eq_true.2 ⟨s.files[j], List.getElem_mem hjs, by rw [← hnm]; simpa using e⟩
          have h3 : s.files.findIdx (fun f => f.name == t) = j := by
            rw [List.findIdx_eq hjs]
            refine ⟨by rw [← hnm]; simpa using e, fun k hk => ?_⟩
            have := hno (s.files[k]) (by rw [List.mem_take_iff_getElem]; exact ⟨k, by omega, rfl⟩)
            simpa using this
          unfold fidx
          rw [if_pos ha, h3])
        subst e
        clear hno hc1 hcell hrow hv hzl hnm hjs
        go_wp2_with fail
        go_ret
        exact ⟨by rw [HE.out]; rfl, rfl⟩
      · have HNO : Hid (∀ f ∈ s.files.take (j + 1), f.name ≠ t) := hid (fun f hf => by
          rw [List.take_add_one, List.getElem?_eq_getElem hjs] at hf
          rcases List.mem_append.1 hf with h | h
          · exact hno f h
          · have : f = s.files[j] := by simpa using h
            rw [this, ← hnm]
            exact e)
        have he : (nm == t) = false := by simpa using e
        have HJ := hid hjl
        clear hno hc1 hcell hrow hv hzl hnm hjs
        go_wp2_with fail
        go_roundg (n - (j + 1))
        case measure => have := HJ.out; omega
        case rel => exact ⟨j + 1, rfl, HJ.out, rfl, rfl, HNO.out⟩
    · have hje : j = n := by omega
      subst hje
      have HE : Hid (fidx s t = -1) := hid (by
        unfold fidx
        rw [if_neg]
        rw [List.any_eq_true]
        rintro ⟨f, hf, e⟩
        rw [HN.out, List.take_length] at hno
        exact hno f hf (by simpa using e))
      have hjn : ¬ (j : Int) < (j : Int) := by omega
      clear hno hj hjl
      go_wp2_with fail
      go_ret
      exact ⟨by rw [HE.out]; rfl, rfl⟩
end Go.Proofs.YtojnembakhhgiaaGreat

/- The document's disk: a step, Fail. -/
namespace Go.Proofs.YtojnembakhhgiaaGreat
open Go.RowKit

abbrev rcells (s : Ds) (fv ov : Value) (i k : Nat) : Array Value := #[fv, ov, .int .i64 (s.next : Int), .int .i64 (s.quota : Int), .int .i64 (s.steps : Int), .bool s.set, .int .i64 (i : Int), .int .u64 (k : Int), .bool s.off]
theorem Rv.not_q {w : World} {q : Nat} {s : Ds} {fv ov : Value} {ss : List Value} (h : Rv w q s fv ov ss) {g : Nat} (hg : g ∈ ob fv ++ ob ov ++ Rr ss) : g ≠ q := fun e => by
  subst e
  rcases List.mem_append.1 hg with hg | hg
  · rcases List.mem_append.1 hg with hg | hg
    · exact h.ap1.1 hg
    · exact h.ap1.2.1 hg
  · obtain ⟨v, hv, hg⟩ := List.mem_flatMap.1 hg
    exact h.ap2 v hv g hg (by simp)
theorem Rv.upd {w w' : World} {q : Nat} {s s' : Ds} {fv ov : Value} {ss : List Value} (h : Rv w q s fv ov ss) (hf : s'.files = s.files) (ho : s'.opn = s.opn) (i k : Nat) (hb : w'.heap[q]? = some (.cells (rcells s' fv ov i k) 60 (0, 0))) (hi : s'.set = true → i = s'.inn ∧ k = s'.keep) (hi2 : i < 9223372036854775808 ∧ k < 18446744073709551616) (hr : ∀ g, g ≠ q → w'.heap[g]? = w.heap[g]?) (hok : Dok s') (hof : s'.off = true → s'.set = true) (hsm : s'.steps < 1000000 ∧ s'.next < 1000000) : Rv w' q s' fv ov ss := by
  have hg : ∀ g, g ∈ ob fv ++ ob ov ++ Rr ss → w'.heap[g]? = w.heap[g]? := fun g hg => hr g (h.not_q hg)
  refine ⟨⟨i, k, hb, hi, hi2⟩, by rw [hf]; exact h.len, ?_, ?_, ?_, h.ap1, h.ap2, hok, hof, hsm⟩
  · rw [hf]
    exact ownsRow_same h.fil (fun g e => hg g (by have := mem_ob.2 e; simp [this]))
  · rw [hf]
    exact fun x hx => ownsRow_same (h.set x hx) (fun g e => hg g (by
      rw [List.mem_append]
      exact .inr (List.mem_flatMap.2 ⟨x.2, (List.of_mem_zip hx).2, mem_ob.2 e⟩)))
  · rw [ho]
    exact ownsRow_same h.opn (fun g e => hg g (by have := mem_ob.2 e; simp [this]))
set_option maxRecDepth 100000 in
set_option maxHeartbeats 4000000 in
theorem rstep_no (w : World) (q : Nat) (s : Ds) (fv ov : Value) (ss : List Value) (h : Rv w q s fv ov ss) (hs : stepD s = none) :
    Calls Tryz.prog 59 #[.pointer (some ⟨q, 0, none⟩)] w fun e w' => e = .returned (.bool false) ∧ Rv w' q (offD s) fv ov ss ∧ Kf [q] w w' := by
  have hc : s.set = true ∧ s.inn = 0 := by
    unfold stepD at hs
    split at hs
    · assumption
    · cases hs
  obtain ⟨i, k, hb, hik, hi2⟩ := h.blk
  have hi0 : i = 0 := by rw [(hik hc.1).1, hc.2]
  subst hi0
  have c5 : w.cell? ⟨q, 5, none⟩ = some (.bool true) := by rw [cell_of_heap hb 5, ← hc.1]; rfl
  have c6 : w.cell? ⟨q, 6, none⟩ = some (.int .i64 0) := (cell_of_heap hb 6).trans rfl
  have c8 : w.cell? ⟨q, 8, none⟩ = some (.bool s.off) := (cell_of_heap hb 8).trans rfl
  have f8 := frozen_of_heap hb 8
  have HE : Hid (Rv (w.setCell ⟨q, 8, none⟩ (.bool true)) q (offD s) fv ov ss) := hid (h.upd rfl rfl 0 k (by rw [heap_setCell_same hb 8 _]; rfl) hik hi2 (fun g hg => Below.heap_setCell _ _ _ _ hg) (off_ok h.ok) (fun _ => hc.1) h.small)
  clear h hs hc hb hik hi2
  go_enter Tryz.func59, Tryz.ntmps59
  go_wp2_with fail
  go_ret
  exact ⟨rfl, HE.out, Kf.set _ (List.mem_singleton.2 rfl) _ _⟩
set_option maxRecDepth 100000 in
set_option maxHeartbeats 4000000 in
theorem rstep_yes (w : World) (q : Nat) (s s' : Ds) (fv ov : Value) (ss : List Value) (h : Rv w q s fv ov ss) (hs : stepD s = some s') (hst : s.steps + 1 < 1000000) :
    Calls Tryz.prog 59 #[.pointer (some ⟨q, 0, none⟩)] w fun e w' => e = .returned (.bool true) ∧ Rv w' q s' fv ov ss ∧ Kf [q] w w' := by
  obtain ⟨i, k, hb, hik, hi2⟩ := h.blk
  have hsi := step_is hs
  obtain ⟨hok, e1, e2, e3, e4, e5, e6⟩ := step_ok h.ok hs
  have hset' : s'.set = s.set := by rw [hsi]; rfl
  have hkeep' : s'.keep = s.keep := by rw [hsi]; rfl
  have hsw : IntKind.i64.wrap ((s.steps : Int) + 1) = ((s.steps + 1 : Nat) : Int) := by rw [IntKind.wrap_i64]; omega
  have c5 : w.cell? ⟨q, 5, none⟩ = some (.bool s.set) := (cell_of_heap hb 5).trans rfl
  have c6 : w.cell? ⟨q, 6, none⟩ = some (.int .i64 (i : Int)) := (cell_of_heap hb 6).trans rfl
  have c4 : w.cell? ⟨q, 4, none⟩ = some (.int .i64 (s.steps : Int)) := (cell_of_heap hb 4).trans rfl
  have f4 := frozen_of_heap hb 4
  have f6 := frozen_of_heap hb 6
  have hsm := h.small
  cases hset : s.set with
  | false =>
    rw [hset] at c5 hset'
    have HE : Hid (Rv (w.setCell ⟨q, 4, none⟩ (.int .i64 ((s.steps + 1 : Nat) : Int))) q s' fv ov ss) := hid (h.upd e1 e2 i k (by
      rw [heap_setCell_same hb 4 _]
      show some (Obj.cells #[fv, ov, .int .i64 (s.next : Int), .int .i64 (s.quota : Int), .int .i64 ((s.steps + 1 : Nat) : Int), .bool s.set, .int .i64 (i : Int), .int .u64 (k : Int), .bool s.off] 60 (0, 0)) = some (Obj.cells (rcells s' fv ov i k) 60 (0, 0))
      rw [← e4, ← e5, ← e6, ← e3, hset, ← hset']) (fun hc => by rw [hset'] at hc; cases hc) hi2 (fun g hg => Below.heap_setCell _ _ _ _ hg) hok (fun ho => by rw [e6] at ho; have := h.off ho; rw [hset] at this; cases this) ⟨by omega, by omega⟩)
    clear h hs hb hik hi2 hsi hok e1 e2 e3 e4 e5 e6 hset' hkeep' hset hsm
    go_enter Tryz.func59, Tryz.ntmps59
    go_wp2_with fail
    go_ret
    exact ⟨rfl, HE.out, Kf.set _ (List.mem_singleton.2 rfl) _ _⟩
  | true =>
    obtain ⟨rfl, rfl⟩ := hik hset
    have hn : s.inn ≠ 0 := fun e => by
      unfold stepD at hs
      rw [if_pos ⟨hset, e⟩] at hs
      cases hs
    have hi1 : ¬ (s.inn : Int) = 0 := by omega
    have hi2' : ((s.inn : Int) == 0) = false := by simpa using hi1
    have hi64 := hi2.1
    have hiw : IntKind.i64.wrap ((s.inn : Int) - 1) = ((s.inn - 1 : Nat) : Int) := by rw [IntKind.wrap_i64]; omega
    have hinn' : s'.inn = s.inn - 1 := by rw [hsi]; unfold preD; show (if s.set = true then s.inn - 1 else s.inn) = _; rw [if_pos hset]
    rw [hset] at c5 hset'
    have HE : Hid (Rv ((w.setCell ⟨q, 6, none⟩ (.int .i64 ((s.inn - 1 : Nat) : Int))).setCell ⟨q, 4, none⟩ (.int .i64 ((s.steps + 1 : Nat) : Int))) q s' fv ov ss) := hid (h.upd e1 e2 (s.inn - 1) s.keep (by
      rw [heap_setCell_same (heap_setCell_same hb 6 _) 4 _]
      show some (Obj.cells #[fv, ov, .int .i64 (s.next : Int), .int .i64 (s.quota : Int), .int .i64 ((s.steps + 1 : Nat) : Int), .bool s.set, .int .i64 ((s.inn - 1 : Nat) : Int), .int .u64 (s.keep : Int), .bool s.off] 60 (0, 0)) = some (Obj.cells (rcells s' fv ov (s.inn - 1) s.keep) 60 (0, 0))
      rw [← e4, ← e5, ← e6, ← e3, hset, ← hset']) (fun _ => ⟨hinn'.symm, hkeep'.symm⟩) ⟨by omega, hi2.2⟩ (fun g hg => (Below.heap_setCell _ _ _ _ hg).trans (Below.heap_setCell _ _ _ _ hg)) hok (fun _ => hset') ⟨by omega, by omega⟩)
    have HK : Hid (Kf [q] w ((w.setCell ⟨q, 6, none⟩ (.int .i64 ((s.inn - 1 : Nat) : Int))).setCell ⟨q, 4, none⟩ (.int .i64 ((s.steps + 1 : Nat) : Int)))) := hid ((Kf.set w (List.mem_singleton.2 rfl) _ _).trans (Kf.set _ (List.mem_singleton.2 rfl) _ _) (fun _ hg => .inl hg))
    generalize ((s.inn - 1 : Nat) : Int) = I at hiw HE HK
    clear h hs hb hik hi2 hsi hok e1 e2 e3 e4 e5 e6 hset' hkeep' hset hsm hi64 hn hinn'
    go_enter Tryz.func59, Tryz.ntmps59
    go_wp2_with fail
    go_ret
    exact ⟨rfl, HE.out, HK.out⟩
set_option maxRecDepth 100000 in
set_option maxHeartbeats 4000000 in
theorem rfail_any (w : World) (q : Nat) (s : Ds) (fv ov : Value) (ss : List Value) (h : Rv w q s fv ov ss) (i : Int) (hi : i < 9223372036854775808) (k : Nat) (hk : k < 18446744073709551616) :
    Calls Tryz.prog 35 #[.pointer (some ⟨q, 0, none⟩), .int .i64 i, .int .u64 (k : Int)] w fun e w' => e = .returned (.tuple #[]) ∧ Rv w' q (failD s i k) fv ov ss ∧ Kf [q] w w' := by
  obtain ⟨i0, k0, hb, hik, hi2⟩ := h.blk
  have c8 : w.cell? ⟨q, 8, none⟩ = some (.bool s.off) := (cell_of_heap hb 8).trans rfl
  have c5 : w.cell? ⟨q, 5, none⟩ = some (.bool s.set) := (cell_of_heap hb 5).trans rfl
  have c6 : w.cell? ⟨q, 6, none⟩ = some (.int .i64 (i0 : Int)) := (cell_of_heap hb 6).trans rfl
  have c7 : w.cell? ⟨q, 7, none⟩ = some (.int .u64 (k0 : Int)) := (cell_of_heap hb 7).trans rfl
  have f5 := frozen_of_heap hb 5
  have f6 := frozen_of_heap hb 6
  have f7 := frozen_of_heap hb 7
  cases ho : s.off with
  | true =>
    rw [ho] at c8
    have HF : Hid (Rv w q (failD s i k) fv ov ss ∧ Kf [q] w w) := hid (by
      have : failD s i k = s := by unfold failD; rw [if_pos ho]
      rw [this]
      exact ⟨h, Kf.refl _ _⟩)
    clear h hb ho hik hi2
    go_enter Tryz.func35, Tryz.ntmps35
    go_wp2_with fail
    refine bodyPost_end (results_none rfl _ _ _) rfl ?_
    exact ⟨rfl, HF.out⟩
  | false =>
    rw [ho] at c8
    have HE : Hid (∀ x : Int, x = max i 0 → Rv (((w.setCell ⟨q, 5, none⟩ (.bool true)).setCell ⟨q, 6, none⟩ (.int .i64 x)).setCell ⟨q, 7, none⟩ (.int .u64 (k : Int))) q (failD s i k) fv ov ss) := hid (fun x hx => by
      have e1 : failD s i k = { s with set := true, inn := (max i 0).toNat, keep := k } := by unfold failD; rw [if_neg (by rw [ho]; decide)]
      refine h.upd (by rw [e1]) (by rw [e1]) (max i 0).toNat k ?_ (fun _ => by rw [e1]; exact ⟨rfl, rfl⟩) ⟨by omega, hk⟩ (fun g hg => by rw [Below.heap_setCell _ _ _ _ hg, Below.heap_setCell _ _ _ _ hg, Below.heap_setCell _ _ _ _ hg]) (fail_ok h.ok i k) (fun _ => by rw [e1]) (by rw [e1]; exact h.small)
      rw [heap_setCell_same (heap_setCell_same (heap_setCell_same hb 5 _) 6 _) 7 _, e1]
      show some (Obj.cells #[fv, ov, .int .i64 (s.next : Int), .int .i64 (s.quota : Int), .int .i64 (s.steps : Int), .bool true, .int .i64 x, .int .u64 (k : Int), .bool s.off] 60 (0, 0)) = some (Obj.cells #[fv, ov, .int .i64 (s.next : Int), .int .i64 (s.quota : Int), .int .i64 (s.steps : Int), .bool true, .int .i64 (((max i 0).toNat : Nat) : Int), .int .u64 (k : Int), .bool s.off] 60 (0, 0))
      rw [← hx, show (x.toNat : Int) = x by omega])
    have HK : Hid (∀ x : Int, Kf [q] w (((w.setCell ⟨q, 5, none⟩ (.bool true)).setCell ⟨q, 6, none⟩ (.int .i64 x)).setCell ⟨q, 7, none⟩ (.int .u64 (k : Int)))) := hid (fun x => ((Kf.set w (List.mem_singleton.2 rfl) _ _).trans (Kf.set _ (List.mem_singleton.2 rfl) _ _) (fun _ hg => .inl hg)).trans (Kf.set _ (List.mem_singleton.2 rfl) _ _) (fun _ hg => .inl hg))
    clear h hb ho hik hi2
    go_enter Tryz.func35, Tryz.ntmps35
    go_wp2_with fail
    all_goals
      refine bodyPost_end (results_none rfl _ _ _) rfl ?_
      exact ⟨rfl, HE.out _ (by omega), HK.out _⟩
end Go.Proofs.YtojnembakhhgiaaGreat
