import Derived.Test.YtojnembakhhgiaaGreatRpAll
/- The document's disk: a file's name changed, its mathematics. -/
namespace Go.Proofs.YtojnembakhhgiaaGreat
open Go.RowKit

theorem row_set {w : World} {base g n cap : Nat} {e : TypeId} {sz : Nat} {xs : List Value} (h : w.ownsRow base e sz (.slice (some ⟨g, 0, none⟩) n cap) n xs) (hn : 0 < n) (k : Nat) (v : Value) : (w.setCell ⟨g, k, none⟩ v).ownsRow base e sz (.slice (some ⟨g, 0, none⟩) n cap) n (xs.set k v) := by
  rcases h.2 with ⟨_, h2⟩ | ⟨g', cap', cur, h1, h2, h3, h4, h5, h6, h7⟩
  · omega
  · cases h1
    refine ⟨by rw [List.length_set]; exact h.1, .inr ⟨g, cap, _, rfl, h2, heap_setCell_same h3 k _, h4, h5, by simpa using h6, ?_⟩⟩
    rw [Array.toList_setIfInBounds, List.take_set, h7]
theorem rflat_set {α : Type} {f : α → List Value} {sz : Nat} (hf : ∀ x, (f x).length = sz) : ∀ (l : List α) (k : Nat) (hk : k < l.length) (x : α) (j : Nat) (v : Value), j < sz → f x = (f l[k]).set j v → (l.set k x).flatMap f = (l.flatMap f).set (k * sz + j) v
  | [], k, hk, _, _, _, _, _ => absurd hk (Nat.not_lt_zero k)
  | y :: l, 0, _, x, j, v, hj, he => by
    simp only [List.set_cons_zero, List.flatMap_cons, List.getElem_cons_zero] at he ⊢
    rw [he, Nat.zero_mul, Nat.zero_add, List.set_append_left _ _ (by rw [hf]; exact hj)]
  | y :: l, k + 1, hk, x, j, v, hj, he => by
    have ih := rflat_set hf l k (by simpa using hk) x j v hj (by simpa using he)
    simp only [List.set_cons_succ, List.flatMap_cons]
    rw [ih, List.set_append_right _ _ (by rw [hf, Nat.add_mul]; omega), hf]
    congr 2
    rw [Nat.add_mul]
    omega
theorem renamed_set {s : Ds} (hok : Dok s) {iy : Nat} (hi : iy < s.files.length) (to : Bs) : (renamed s s.files[iy].no to).files = s.files.set iy { s.files[iy] with name := to } := by
  show (s.files.map fun f => if f.no == s.files[iy].no then { f with name := to } else f) = _
  refine List.ext_getElem (by simp) (fun k h1 h2 => ?_)
  have hk : k < s.files.length := by simpa using h2
  rw [List.getElem_map, List.getElem_set]
  by_cases e : iy = k
  · subst e
    simp
  · rw [if_neg e, if_neg]
    intro hno
    have hno' : s.files[k].no = s.files[iy].no := by simpa using hno
    have hnd := hok.nos
    have := (List.getElem_inj (i := k) (j := iy) (xs := s.files.map Df.no) (h₀ := by simpa using hk) (h₁ := by simpa using hi) hnd).1 (by rw [List.getElem_map, List.getElem_map]; exact hno')
    exact e this.symm
theorem rzip_set {s : List Df} {ss : List Value} (hl : ss.length = s.length) {i : Nat} (hi : i < s.length) (x : Df) : (s.set i x).zip ss = (s.zip ss).set i (x, ss[i]'(by omega)) := by
  refine List.ext_getElem (by simp) (fun k h1 h2 => ?_)
  rw [List.getElem_zip, List.getElem_set, List.getElem_set]
  by_cases e : i = k
  · subst e
    rw [if_pos rfl, if_pos rfl]
  · rw [if_neg e, if_neg e, List.getElem_zip]

theorem Rv.renamed {w : World} {q : Nat} {s : Ds} {fv ov : Value} {ss : List Value} (h : Rv w q s fv ov ss) {iy : Nat} (hi : iy < s.files.length) {g n cap : Nat} (hv : fv = .slice (some ⟨g, 0, none⟩) n cap) (to : Bs) (hok : Dok (renamed s s.files[iy].no to)) :
    Rv (w.setCell ⟨g, iy * 3 + 1, none⟩ (St to)) q (YtojnembakhhgiaaGreat.renamed s s.files[iy].no to) fv ov ss ∧ Kf [g] w (w.setCell ⟨g, iy * 3 + 1, none⟩ (St to)) ∧ g ∈ ob fv := by
  have hgm : g ∈ ob fv := mem_ob.2 (by rw [hv]; rfl)
  obtain ⟨ao, cap', hsh⟩ := row_shape h.fil
  have hfil := h.fil
  rw [hv] at hsh hfil
  cases hsh
  have hset := renamed_set h.ok hi to
  have hl : ss.length = s.files.length := h.len
  have hzl : (s.files.zip ss).length = s.files.length := by rw [List.length_zip, h.len]; omega
  have hne : ∀ k, k ≠ g → (w.setCell ⟨g, iy * 3 + 1, none⟩ (St to)).heap[k]? = w.heap[k]? := fun k hk => Below.heap_setCell _ _ _ _ hk
  have hq : q ≠ g := fun e => h.ap1.1 (e ▸ hgm)
  obtain ⟨i, k, hb, hik, hi2⟩ := h.blk
  have hlen : (YtojnembakhhgiaaGreat.renamed s s.files[iy].no to).files.length = s.files.length := by rw [hset, List.length_set]
  refine ⟨⟨⟨i, k, (hne q hq).trans hb, hik, hi2⟩, ?_, ?_, fun x hx => ?_, ?_, h.ap1, h.ap2, hok, h.off, h.small⟩, Kf.set _ (by simp) _ _, hgm⟩
  · rw [hlen]; exact h.len
  · rw [hlen, hset, rzip_set hl hi, hv]
    have e := rflat_set (f := fun x : Df × Value => fc x.1 x.2) (sz := 3) fc_len (s.files.zip ss) iy (by omega) ({ s.files[iy] with name := to }, ss[iy]'(by rw [hl]; exact hi)) 1 (St to) (by omega) (by rw [List.getElem_zip]; rfl)
    unfold fcs
    rw [e]
    exact row_set hfil (by omega) _ _
  · have hx' : ∃ f ∈ s.files, ∃ v, (f, v) ∈ s.files.zip ss ∧ x.2 = v ∧ x.1.settled = f.settled := by
      rw [hset, rzip_set hl hi] at hx
      rcases List.mem_or_eq_of_mem_set hx with h5 | h5
      · exact ⟨x.1, (List.of_mem_zip h5).1, x.2, h5, rfl, rfl⟩
      · refine ⟨s.files[iy], List.getElem_mem hi, ss[iy]'(by rw [hl]; exact hi), ?_, by rw [h5], by rw [h5]⟩
        have := List.getElem_mem (l := s.files.zip ss) (n := iy) (by omega)
        rw [List.getElem_zip] at this
        exact this
    obtain ⟨f, _, v, hz, e1, e2⟩ := hx'
    rw [e1, e2]
    have h1 := h.set _ hz
    refine ownsRow_same h1 (fun k hk => hne k (fun e => ?_))
    have := h.ap2 v (List.of_mem_zip hz).2 k (mem_ob.2 hk)
    rw [e] at this
    exact this (List.mem_cons_of_mem _ (List.mem_append_left _ hgm))
  · exact ownsRow_same h.opn (fun k hk => hne k (fun e => h.ap1.2.2 g hgm (e ▸ mem_ob.2 hk)))
end Go.Proofs.YtojnembakhhgiaaGreat

/- The document's disk: Rename, the walk. -/
namespace Go.Proofs.YtojnembakhhgiaaGreat
open Go.RowKit

/-- a name found and changed -/
theorem ren_all {W : World} {q : Nat} {s3 : Ds} {fv3 ov3 : Value} {ss3 : List Value} (h3 : Rv W q s3 fv3 ov3 ss3) {fr to : Bs} {f : Df} (hf : findF s3 fr = some f) (hok : Dok (renamed s3 f.no to)) :
    ∃ g n cap iy, W.cell? ⟨q, 0, none⟩ = some (.slice (some ⟨g, 0, none⟩) n cap) ∧ iy < n ∧ (Calls Tryz.prog 58 #[.pointer (some ⟨q, 0, none⟩), St fr] W fun e w' => ∃ v, e = .returned v ∧ v = .int .i64 (iy : Int) ∧ w' = W) ∧ W.cell? ⟨g, iy * 3 + 1, none⟩ = some (St fr) ∧ W.frozen? ⟨g, iy * 3 + 1, none⟩ = false ∧ Rv (W.setCell ⟨g, iy * 3 + 1, none⟩ (St to)) q (renamed s3 f.no to) fv3 ov3 ss3 ∧ Kf (Rm q fv3 ov3) W (W.setCell ⟨g, iy * 3 + 1, none⟩ (St to)) := by
  obtain ⟨iy, hi, hx, he⟩ := fidx_some hf
  have hzl : (s3.files.zip ss3).length = s3.files.length := by rw [List.length_zip, h3.len]; omega
  have hrow : W.ownsRow 0 92 3 fv3 (s3.files.zip ss3).length ((s3.files.zip ss3).flatMap fun x => fc x.1 x.2) := by rw [hzl]; exact h3.fil
  obtain ⟨g, cap, hv, hcap, hcell⟩ := row_cells fc_len hrow (by omega)
  rw [hzl] at hv
  have hc1 := hcell iy (by omega) 1 (by omega)
  rw [List.getElem_zip] at hc1
  obtain ⟨i0, k0, hb, _⟩ := h3.blk
  rw [← he] at hok
  obtain ⟨m1, m2, m3⟩ := h3.renamed hi hv to hok
  rw [he] at m1
  have hnm := (find_mem hf).2
  have hfz : W.frozen? ⟨g, iy * 3 + 1, none⟩ = false := by
    have hfil := h3.fil
    rw [hv] at hfil
    rcases hfil.2 with ⟨_, h2⟩ | ⟨g', cap', cur, h1, h2, h3, _⟩
    · omega
    · cases h1
      exact frozen_of_heap h3 _
  refine ⟨g, s3.files.length, cap, iy, ?_, hi, ?_, ?_, hfz, m1, m2.more (fun k hk => ?_)⟩
  · rw [← hv]
    exact (cell_of_heap hb 0).trans rfl
  · refine (rfind_any W q s3 fv3 ov3 ss3 h3 fr).mono ?_
    rintro e w' ⟨rfl, hw⟩
    exact ⟨_, rfl, by rw [hx], hw⟩
  · rw [hc1]
    show some (St s3.files[iy].name) = _
    rw [he, hnm]
  · have : k = g := by simpa using hk
    rw [this]
    exact List.mem_cons_of_mem _ (List.mem_append_left _ m3)
def rn0 : Oper := { dst := some 37, op := Go.Op.move (Go.Operand.tmp 0), type := 26, pos := "ref.go:153", after := #[], guard := none }
def rn1 : Oper := { dst := some 38, op := Go.Op.nilCheck (Go.Operand.tmp 37), type := 0, pos := "ref.go:153", after := #[{ on := 0, ground := Go.Ground.data }], guard := none }
def rn2 : Oper := { dst := some 39, op := Go.Op.fieldAddr 60 (Go.Operand.tmp 38) 0, type := 0, pos := "ref.go:153", after := #[{ on := 1, ground := Go.Ground.data }], guard := none }
def rn3 : Oper := { dst := some 40, op := Go.Op.load 57 (Go.Operand.tmp 39), type := 57, pos := "ref.go:153", after := #[{ on := 2, ground := Go.Ground.data }], guard := none }
def rn4 : Oper := { dst := some 41, op := Go.Op.move (Go.Operand.tmp 0), type := 26, pos := "ref.go:153", after := #[], guard := none }
def rn5 : Oper := { dst := some 42, op := Go.Op.move (Go.Operand.tmp 1), type := 9, pos := "ref.go:153", after := #[], guard := none }
def rn6 : Oper := { dst := some 43, op := Go.Op.call { callee := Go.Callee.value (Go.Operand.func 58), args := #[Go.Operand.tmp 41, Go.Operand.tmp 42], argTypes := #[26, 9] }, type := 3, pos := "ref.go:153", after := #[{ on := 4, ground := Go.Ground.data }, { on := 5, ground := Go.Ground.data }], guard := none }
def rn7 : Oper := { dst := some 44, op := Go.Op.move (Go.Operand.tmp 2), type := 9, pos := "ref.go:153", after := #[], guard := none }
def rn8 : Oper := { dst := some 45, op := Go.Op.indexAddr 57 (Go.Operand.tmp 40) (Go.Operand.tmp 43), type := 0, pos := "ref.go:153", after := #[{ on := 3, ground := Go.Ground.data }, { on := 6, ground := Go.Ground.data }, { on := 0, ground := Go.Ground.phase }, { on := 1, ground := Go.Ground.phase }, { on := 2, ground := Go.Ground.phase }, { on := 3, ground := Go.Ground.phase }, { on := 4, ground := Go.Ground.phase }, { on := 5, ground := Go.Ground.phase }, { on := 6, ground := Go.Ground.phase }, { on := 7, ground := Go.Ground.phase }], guard := none }
def rn9 : Oper := { dst := some 46, op := Go.Op.fieldAddr 92 (Go.Operand.tmp 45) 1, type := 0, pos := "ref.go:153", after := #[{ on := 8, ground := Go.Ground.data }, { on := 0, ground := Go.Ground.phase }, { on := 1, ground := Go.Ground.phase }, { on := 2, ground := Go.Ground.phase }, { on := 3, ground := Go.Ground.phase }, { on := 4, ground := Go.Ground.phase }, { on := 5, ground := Go.Ground.phase }, { on := 6, ground := Go.Ground.phase }, { on := 7, ground := Go.Ground.phase }], guard := none }
def rn10 : Oper := { dst := none, op := Go.Op.store 9 (Go.Operand.tmp 46) (Go.Operand.tmp 44), type := 0, pos := "ref.go:153", after := #[{ on := 9, ground := Go.Ground.data }, { on := 7, ground := Go.Ground.data }, { on := 6, ground := Go.Ground.chain }, { on := 0, ground := Go.Ground.phase }, { on := 1, ground := Go.Ground.phase }, { on := 2, ground := Go.Ground.phase }, { on := 3, ground := Go.Ground.phase }, { on := 4, ground := Go.Ground.phase }, { on := 5, ground := Go.Ground.phase }, { on := 6, ground := Go.Ground.phase }, { on := 7, ground := Go.Ground.phase }], guard := none }

set_option maxRecDepth 100000 in
set_option maxHeartbeats 8000000 in
theorem rrename_any (w : World) (q : Nat) (s : Ds) (fv ov : Value) (ss : List Value) (h : Rv w q s fv ov ss) (hst : s.steps + 1 < 1000000) (fr to : Bs) :
    Calls Tryz.prog 31 #[.pointer (some ⟨q, 0, none⟩), St fr, St to] w fun e w' => e = .returned (.int .i64 ((renameD s fr to).1 : Int)) ∧ Rleft w q fv ov ss (renameD s fr to).2 w' := by
  obtain ⟨i0, k0, hb, _⟩ := h.blk
  have c8 : w.cell? ⟨q, 8, none⟩ = some (.bool s.off) := (cell_of_heap hb 8).trans rfl
  have HFI := hid (rfind_any w q s fv ov ss h fr)
  have HNM := hid (rnamed_any w to)
  have HST : Hid (Rleft w q fv ov ss s w) := hid (Rleft.stay h (Below.refl _ _))
  obtain ⟨R, hR⟩ : ∃ R, R = renameD s fr to := ⟨_, rfl⟩
  rw [← hR]
  have hok2 := rename_ok h.ok fr to
  rw [← hR] at hok2
  cases ho : s.off with
  | true =>
    rw [ho] at c8
    have HRE : Hid (R = (7, s)) := hid (by rw [hR]; unfold renameD; rw [if_pos ho])
    clear h hb hR hok2
    go_enter Tryz.func31, Tryz.ntmps31
    go_wp2_with fail
    go_ret
    rw [HRE.out]
    exact ⟨rfl, HST.out⟩
  | false =>
    rw [ho] at c8
    cases hf : findF s fr with
    | none =>
      rw [fidx_none hf] at HFI
      have HRE : Hid (R = (91, s)) := hid (by rw [hR]; unfold renameD; rw [if_neg (by rw [ho]; decide), hf])
      clear h hb hR hf hok2
      go_enter Tryz.func31, Tryz.ntmps31
      go_wp2_with fail
      refine HFI.out.mono ?_
      rintro e w1 ⟨rfl, hw⟩
      subst hw
      go_wp2_with fail
      go_ret
      rw [HRE.out]
      exact ⟨rfl, HST.out⟩
    | some f =>
      obtain ⟨ix, hix, hfx, hfe⟩ := fidx_some hf
      rw [hfx] at HFI
      have hi0 : ¬ (ix : Int) < 0 := by omega
      have hR1 : R = if named to = false then (2, s) else doD s fun s => if fr = to then s else match findF s to with
          | none => renamed s f.no to
          | some g => renamed (dropF s g.no) f.no to := by
        rw [hR]
        unfold renameD
        rw [if_neg (by rw [ho]; decide), hf]
        rfl
      cases hnm : named to with
      | false =>
        rw [hnm] at HNM
        have HRE : Hid (R = (2, s)) := hid (by rw [hR1, if_pos hnm])
        clear h hb hR hR1 hf hfx hfe hix hok2
        go_enter Tryz.func31, Tryz.ntmps31
        go_wp2_with fail
        refine HFI.out.mono ?_
        rintro e w1 ⟨rfl, hw⟩
        subst hw
        go_wp2_with fail
        refine HNM.out.mono ?_
        rintro e w1 ⟨rfl, hw⟩
        subst hw
        go_wp2_with fail
        go_ret
        rw [HRE.out]
        exact ⟨rfl, HST.out⟩
      | true =>
        rw [hnm] at HNM
        rw [if_neg (by rw [hnm]; decide)] at hR1
        cases hs : stepD s with
        | none =>
          have HSP := hid (rstep_no w q s fv ov ss h hs)
          have HRE : Hid (R = (7, offD s)) := hid (by rw [hR1]; unfold doD; rw [hs])
          have HLE : Hid (∀ w', Rv w' q (offD s) fv ov ss → Kf [q] w w' → Rleft w q fv ov ss (offD s) w') := hid (fun w' h1 h2 => ⟨fv, ov, ss, h1, h2.more (fun g hg => by simp at hg; simp [Rm, hg]), fun g hg => .inl hg⟩)
          clear h hb hR hR1 hf hs hfx hfe hix hok2
          go_enter Tryz.func31, Tryz.ntmps31
          go_wp2_with fail
          refine HFI.out.mono ?_
          rintro e w1 ⟨rfl, hw⟩
          subst hw
          go_wp2_with fail
          refine HNM.out.mono ?_
          rintro e w1 ⟨rfl, hw⟩
          subst hw
          go_wp2_with fail
          refine HSP.out.mono ?_
          rintro e w2 ⟨rfl, h1, h2⟩
          have HL := hid (HLE.out w2 h1 h2)
          clear h1 h2
          go_wp2_with fail
          go_ret
          rw [HRE.out]
          exact ⟨rfl, HL.out⟩
        | some s' =>
          have HSP := hid (rstep_yes w q s s' fv ov ss h hs hst)
          have hR2 : R = (0, if fr = to then s' else match findF s' to with
              | none => renamed s' f.no to
              | some g => renamed (dropF s' g.no) f.no to) := by rw [hR1]; unfold doD; rw [hs]
          obtain ⟨hok, e1, e2, e3, e4, e5, e6⟩ := step_ok h.ok hs
          have hf' : findF s' fr = some f := by rw [find_same e1]; exact hf
          by_cases heq : fr = to
          · have HRE : Hid (R = (0, s')) := hid (by rw [hR2, if_pos heq])
            have HLE : Hid (∀ w', Rv w' q s' fv ov ss → Kf [q] w w' → Rleft w q fv ov ss s' w') := hid (fun w' h1 h2 => ⟨fv, ov, ss, h1, h2.more (fun g hg => by simp at hg; simp [Rm, hg]), fun g hg => .inl hg⟩)
            clear h hb hR hR1 hR2 hf hs hfx hfe hix hok2 hok e1 e2 e3 e4 e5 e6 hf'
            subst heq
            go_enter Tryz.func31, Tryz.ntmps31
            go_wp2_with fail
            refine HFI.out.mono ?_
            rintro e w1 ⟨rfl, hw⟩
            subst hw
            go_wp2_with fail
            refine HNM.out.mono ?_
            rintro e w1 ⟨rfl, hw⟩
            subst hw
            go_wp2_with fail
            refine HSP.out.mono ?_
            rintro e w2 ⟨rfl, h1, h2⟩
            have HL := hid (HLE.out w2 h1 h2)
            clear h1 h2
            go_wp2_with fail
            go_ret
            rw [HRE.out]
            exact ⟨rfl, HL.out⟩
          · rw [if_neg heq] at hR2
            have hbq : (fr == to) = false := by simpa using heq
            have HFJ : Hid (∀ w2, Rv w2 q s' fv ov ss → Calls Tryz.prog 58 #[.pointer (some ⟨q, 0, none⟩), St to] w2 fun e w' => e = .returned (.int .i64 (fidx s' to)) ∧ w' = w2) := hid (fun w2 h1 => rfind_any w2 q s' fv ov ss h1 to)
            cases hg : findF s' to with
            | none =>
              rw [fidx_none hg] at HFJ
              rw [hg] at hR2
              have hRE : R = (0, renamed s' f.no to) := hR2
              have HRE := hid hRE
              rw [hRE] at hok2
              have HRA := hid (fun (W : World) (hW : Rv W q s' fv ov ss) => ren_all hW hf' hok2)
              have HFIN : Hid (∀ (W W' : World), Kf [q] w W → Rv W' q (renamed s' f.no to) fv ov ss → Kf (Rm q fv ov) W W' → Rleft w q fv ov ss (renamed s' f.no to) W') := hid (fun W W' h1 h2 h3 => ⟨fv, ov, ss, h2, (h1.more (fun g hg => by simp at hg; simp [Rm, hg])).trans h3 (fun g hg => .inl hg), fun g hg => .inl hg⟩)
              clear h hb hR hR1 hR2 hRE hf hs hfx hfe hix hok2 hok e1 e2 e3 e4 e5 e6 hf' hg
              go_enter Tryz.func31, Tryz.ntmps31
              go_wp2_with fail
              refine HFI.out.mono ?_
              rintro e w1 ⟨rfl, hw⟩
              subst hw
              go_wp2_with fail
              refine HNM.out.mono ?_
              rintro e w1 ⟨rfl, hw⟩
              subst hw
              go_wp2_with fail
              refine HSP.out.mono ?_
              rintro e w2 ⟨rfl, h1, h2⟩
              have HJ := hid (HFJ.out w2 h1)
              have HR2 := hid h1
              have HK2 := hid h2
              clear h1 h2
              go_wp2_with fail
              refine HJ.out.mono ?_
              rintro e w3 ⟨rfl, hw⟩
              subst hw
              go_wp2_with fail
              have hRW : Rv w3.drew q s' fv ov ss := HR2.out.same (fun _ _ => rfl)
              have hKW : Kf [q] _ w3.drew := ⟨HK2.out.os, HK2.out.tape, HK2.out.output, HK2.out.size, HK2.out.blk⟩
              obtain ⟨g, n, cap, iy, c0, hiy, hfd, c1, fz, hL1, hL2⟩ := HRA.out w3.drew hRW
              have HL := hid (HFIN.out _ _ hKW hL1 hL2)
              have HFD := hid hfd
              have hiyn : (iy : Int) < (n : Int) := by omega
              have hiy0 : (0 : Int) ≤ (iy : Int) := Int.natCast_nonneg _
              have hs0 : (fun W : World => W.cell? ⟨q, 0, none⟩ = some (.slice (some ⟨g, 0, none⟩) n cap)) w3.drew := c0
              clear hL1 hL2 hfd hiy hRW hKW
              refine region_z (fun W => W.cell? ⟨q, 0, none⟩ = some (.slice (some ⟨g, 0, none⟩) n cap)) 10 (by kernel_rfl) ?_
              refine z_take (i := 0) (oi := rn0) (v := .pointer (some ⟨q, 0, none⟩)) rfl (by kernel_rfl) (by kernel_rfl) (by kernel_rfl) (fun _ _ _ h => h) (by kernel_rfl) (by decide) (y_all rfl (fun _ => rfl)) hs0 ?_
              refine z_take (i := 4) (oi := rn4) (v := .pointer (some ⟨q, 0, none⟩)) rfl (by kernel_rfl) (by kernel_rfl) (by kernel_rfl) (fun _ _ _ h => h) (by kernel_rfl) (by decide) (y_all rfl (fun _ => rfl)) hs0 ?_
              refine z_take (i := 5) (oi := rn5) (v := St fr) rfl (by kernel_rfl) (by kernel_rfl) (by kernel_rfl) (fun _ _ _ h => h) (by kernel_rfl) (by decide) (y_all rfl (fun _ => rfl)) hs0 ?_
              refine z_take (i := 7) (oi := rn7) (v := St to) rfl (by kernel_rfl) (by kernel_rfl) (by kernel_rfl) (fun _ _ _ h => h) (by kernel_rfl) (by decide) (y_all rfl (fun _ => rfl)) hs0 ?_
              simp only [Act.put, rn0, rn4, rn5, rn7, List.setIfInBounds_toArray, List.set_cons_zero, List.set_cons_succ]
              refine z_take (i := 1) (oi := rn1) (v := .pointer (some ⟨q, 0, none⟩)) rfl (by kernel_rfl) (by kernel_rfl) (by kernel_rfl) (fun _ _ _ h => h) (by kernel_rfl) (by decide) (y_all rfl (fun _ => rfl)) hs0 ?_
              simp only [Act.put, rn1, List.setIfInBounds_toArray, List.set_cons_zero, List.set_cons_succ]
              refine z_take (i := 2) (oi := rn2) (v := .pointer (some ⟨q, 0, none⟩)) rfl (by kernel_rfl) (by kernel_rfl) (by kernel_rfl) (fun _ _ _ h => h) (by kernel_rfl) (by decide) (y_all rfl (fun _ => by simp only [rn2]; go_simp)) hs0 ?_
              simp only [Act.put, rn2, List.setIfInBounds_toArray, List.set_cons_zero, List.set_cons_succ]
              refine z_take (i := 3) (oi := rn3) (v := .slice (some ⟨g, 0, none⟩) n cap) rfl (by kernel_rfl) (by kernel_rfl) (by kernel_rfl) (fun _ _ _ h => h) (by kernel_rfl) (by decide) (y_load rfl 57 (.tmp 39) rfl q 0 rfl (fun w hw => load56 hw)) hs0 ?_
              simp only [Act.put, rn3, List.setIfInBounds_toArray, List.set_cons_zero, List.set_cons_succ]
              refine z_all (rs := [6]) (by kernel_rfl) (by simp) (all1 ?_)
              refine op_call (o := rn6) (f := 58) (args := #[.pointer (some ⟨q, 0, none⟩), St fr]) (R := fun v w' => v = .int .i64 (iy : Int) ∧ w' = w3.drew) rfl rfl (by simp only [rn6]; go_simp) HFD.out ?_
              rintro v w' ⟨rfl, rfl⟩
              refine ⟨fun _ => hs0, ?_⟩
              simp only [Act.put, rn6, List.setIfInBounds_toArray, List.set_cons_zero, List.set_cons_succ]
              refine z_all (rs := [8]) (by kernel_rfl) (by simp) (all1 ?_)
              refine op_ok (o := rn8) (v := .pointer (some ⟨g, iy * 3, none⟩)) (w' := w3.drew) rfl rfl (by simp only [rn8]; go_simp) ?_
              refine ⟨fun _ => hs0, ?_⟩
              simp only [Act.put, rn8, List.setIfInBounds_toArray, List.set_cons_zero, List.set_cons_succ]
              refine z_all (rs := [9]) (by kernel_rfl) (by simp) (all1 ?_)
              refine op_ok (o := rn9) (v := .pointer (some ⟨g, iy * 3 + 1, none⟩)) (w' := w3.drew) rfl rfl (by simp only [rn9]; go_simp) ?_
              refine ⟨fun _ => hs0, ?_⟩
              simp only [Act.put, rn9, List.setIfInBounds_toArray, List.set_cons_zero, List.set_cons_succ]
              refine z_all (rs := [10]) (by kernel_rfl) (by simp) (all1 ?_)
              refine op_skip (o := rn10) (w' := w3.drew.setCell ⟨g, iy * 3 + 1, none⟩ (St to)) rfl rfl (by simp only [rn10]; go_simp) ?_
              refine ⟨fun h => absurd rfl h, ?_⟩
              refine z_done (by kernel_rfl) ?_ _
              simp only [Act.put, rn10]
              clear hs0
              go_wp2_with fail
              go_ret
              rw [HRE.out]
              exact ⟨rfl, HL.out⟩
            | some f2 =>
              obtain ⟨iz, hiz, hzx, hze⟩ := fidx_some hg
              rw [hzx] at HFJ
              rw [hg] at hR2
              have hRE : R = (0, renamed (dropF s' f2.no) f.no to) := hR2
              have HRE := hid hRE
              rw [hRE] at hok2
              have hnof : f.no ≠ f2.no := fun e => by
                have a1 := (find_mem hf').1
                have a2 := (find_mem hg).1
                have b1 := (find_mem hf').2
                have b2 := (find_mem hg).2
                obtain ⟨k1, hk1, r1⟩ := List.getElem_of_mem a1
                obtain ⟨k2, hk2, r2⟩ := List.getElem_of_mem a2
                have := (List.getElem_inj (i := k1) (j := k2) (xs := s'.files.map Df.no) (h₀ := by simpa using hk1) (h₁ := by simpa using hk2) hok.nos).1 (by rw [List.getElem_map, List.getElem_map, r1, r2]; exact e)
                subst this
                exact heq (by rw [← b1, ← b2, ← r1, ← r2])
              have hmem : f ∈ (dropF s' f2.no).files := List.mem_filter.2 ⟨(find_mem hf').1, by simpa using hnof⟩
              have hf3 : findF (dropF s' f2.no) fr = some f := by
                have := find_is (drop_ok hok f2.no) hmem
                rw [(find_mem hf').2] at this
                exact this
              have HRA := hid (fun (W : World) (fv4 ov4 : Value) (hW : Rv W q (dropF s' f2.no) fv4 ov4 (ss.eraseIdx iz)) => ren_all hW hf3 hok2)
              have HDR : Hid (∀ w2, Rv w2 q s' fv ov ss → Kf [q] w w2 → Calls Tryz.prog 61 #[.pointer (some ⟨q, 0, none⟩), .int .i64 (iz : Int)] w2 fun e w' => e = .returned (.tuple #[]) ∧ ∃ fv4 ov4, Rv w' q (dropF s' f2.no) fv4 ov4 (ss.eraseIdx iz) ∧ Kf [q] w w' ∧ ∀ g ∈ ob fv4 ++ ob ov4, w.heap.size ≤ g) := hid (fun w2 h1 h2 => by
                refine (rdrop_any w2 q s' fv ov ss h1 iz hiz).mono ?_
                rintro e w' ⟨he, fv4, ov4, d1, d2, d3⟩
                rw [hze] at d1
                exact ⟨he, fv4, ov4, d1, h2.trans d2 (fun g hg => .inl hg), fun g hg => Nat.le_trans h2.size (d3 g hg)⟩)
              have HFIN : Hid (∀ (fv4 ov4 : Value) (W W' : World), Kf [q] w W → (∀ g ∈ ob fv4 ++ ob ov4, w.heap.size ≤ g) → Rv W' q (renamed (dropF s' f2.no) f.no to) fv4 ov4 (ss.eraseIdx iz) → Kf (Rm q fv4 ov4) W W' → Rleft w q fv ov ss (renamed (dropF s' f2.no) f.no to) W') := hid (fun fv4 ov4 W W' h1 hn h2 h3 => by
                refine ⟨fv4, ov4, _, h2, (h1.more (fun g hg => by simp at hg; simp [Rm, hg])).trans h3 (fun g hg => ?_), fun g hg => ?_⟩
                · rcases List.mem_cons.1 hg with h6 | h6
                  · exact .inl (by simp [Rm, h6])
                  · exact .inr (hn g h6)
                · rcases List.mem_append.1 hg with h5 | h5
                  · rcases List.mem_cons.1 h5 with h6 | h6
                    · exact .inl (by simp [Rm, h6])
                    · exact .inr (hn g h6)
                  · exact .inl (List.mem_append_right _ (rr_erase h5)))
              have hiz0 : (0 : Int) ≤ (iz : Int) := Int.natCast_nonneg _
              clear h hb hR hR1 hR2 hRE hf hs hfx hfe hix hok2 hok e1 e2 e3 e4 e5 e6 hf' hg hnof hmem hf3 hiz hzx hze
              go_enter Tryz.func31, Tryz.ntmps31
              go_wp2_with fail
              refine HFI.out.mono ?_
              rintro e w1 ⟨rfl, hw⟩
              subst hw
              go_wp2_with fail
              refine HNM.out.mono ?_
              rintro e w1 ⟨rfl, hw⟩
              subst hw
              go_wp2_with fail
              refine HSP.out.mono ?_
              rintro e w2 ⟨rfl, h1, h2⟩
              have HJ := hid (HFJ.out w2 h1)
              have HD := hid (HDR.out w2 h1 h2)
              clear h1 h2
              go_wp2_with fail
              refine HJ.out.mono ?_
              rintro e w3 ⟨rfl, hw⟩
              subst hw
              go_wp2_with fail
              refine HD.out.mono ?_
              rintro e w4 ⟨rfl, fv4, ov4, d1, d2, d3⟩
              have HD1 := hid d1
              have HD2 := hid d2
              have HD3 := hid d3
              clear d1 d2 d3
              go_wp2_with fail
              have hRW : Rv w4.drew q (dropF s' f2.no) fv4 ov4 (ss.eraseIdx iz) := HD1.out.same (fun _ _ => rfl)
              have hKW : Kf [q] _ w4.drew := ⟨HD2.out.os, HD2.out.tape, HD2.out.output, HD2.out.size, HD2.out.blk⟩
              obtain ⟨g, n, cap, iy, c0, hiy, hfd, c1, fz, hL1, hL2⟩ := HRA.out w4.drew fv4 ov4 hRW
              have HL := hid (HFIN.out fv4 ov4 _ _ hKW HD3.out hL1 hL2)
              have HFD := hid hfd
              have hiyn : (iy : Int) < (n : Int) := by omega
              have hiy0 : (0 : Int) ≤ (iy : Int) := Int.natCast_nonneg _
              have hs0 : (fun W : World => W.cell? ⟨q, 0, none⟩ = some (.slice (some ⟨g, 0, none⟩) n cap)) w4.drew := c0
              clear hL1 hL2 hfd hiy hRW hKW
              refine region_z (fun W => W.cell? ⟨q, 0, none⟩ = some (.slice (some ⟨g, 0, none⟩) n cap)) 10 (by kernel_rfl) ?_
              refine z_take (i := 0) (oi := rn0) (v := .pointer (some ⟨q, 0, none⟩)) rfl (by kernel_rfl) (by kernel_rfl) (by kernel_rfl) (fun _ _ _ h => h) (by kernel_rfl) (by decide) (y_all rfl (fun _ => rfl)) hs0 ?_
              refine z_take (i := 4) (oi := rn4) (v := .pointer (some ⟨q, 0, none⟩)) rfl (by kernel_rfl) (by kernel_rfl) (by kernel_rfl) (fun _ _ _ h => h) (by kernel_rfl) (by decide) (y_all rfl (fun _ => rfl)) hs0 ?_
              refine z_take (i := 5) (oi := rn5) (v := St fr) rfl (by kernel_rfl) (by kernel_rfl) (by kernel_rfl) (fun _ _ _ h => h) (by kernel_rfl) (by decide) (y_all rfl (fun _ => rfl)) hs0 ?_
              refine z_take (i := 7) (oi := rn7) (v := St to) rfl (by kernel_rfl) (by kernel_rfl) (by kernel_rfl) (fun _ _ _ h => h) (by kernel_rfl) (by decide) (y_all rfl (fun _ => rfl)) hs0 ?_
              simp only [Act.put, rn0, rn4, rn5, rn7, List.setIfInBounds_toArray, List.set_cons_zero, List.set_cons_succ]
              refine z_take (i := 1) (oi := rn1) (v := .pointer (some ⟨q, 0, none⟩)) rfl (by kernel_rfl) (by kernel_rfl) (by kernel_rfl) (fun _ _ _ h => h) (by kernel_rfl) (by decide) (y_all rfl (fun _ => rfl)) hs0 ?_
              simp only [Act.put, rn1, List.setIfInBounds_toArray, List.set_cons_zero, List.set_cons_succ]
              refine z_take (i := 2) (oi := rn2) (v := .pointer (some ⟨q, 0, none⟩)) rfl (by kernel_rfl) (by kernel_rfl) (by kernel_rfl) (fun _ _ _ h => h) (by kernel_rfl) (by decide) (y_all rfl (fun _ => by simp only [rn2]; go_simp)) hs0 ?_
              simp only [Act.put, rn2, List.setIfInBounds_toArray, List.set_cons_zero, List.set_cons_succ]
              refine z_take (i := 3) (oi := rn3) (v := .slice (some ⟨g, 0, none⟩) n cap) rfl (by kernel_rfl) (by kernel_rfl) (by kernel_rfl) (fun _ _ _ h => h) (by kernel_rfl) (by decide) (y_load rfl 57 (.tmp 39) rfl q 0 rfl (fun w hw => load56 hw)) hs0 ?_
              simp only [Act.put, rn3, List.setIfInBounds_toArray, List.set_cons_zero, List.set_cons_succ]
              refine z_all (rs := [6]) (by kernel_rfl) (by simp) (all1 ?_)
              refine op_call (o := rn6) (f := 58) (args := #[.pointer (some ⟨q, 0, none⟩), St fr]) (R := fun v w' => v = .int .i64 (iy : Int) ∧ w' = w4.drew) rfl rfl (by simp only [rn6]; go_simp) HFD.out ?_
              rintro v w' ⟨rfl, rfl⟩
              refine ⟨fun _ => hs0, ?_⟩
              simp only [Act.put, rn6, List.setIfInBounds_toArray, List.set_cons_zero, List.set_cons_succ]
              refine z_all (rs := [8]) (by kernel_rfl) (by simp) (all1 ?_)
              refine op_ok (o := rn8) (v := .pointer (some ⟨g, iy * 3, none⟩)) (w' := w4.drew) rfl rfl (by simp only [rn8]; go_simp) ?_
              refine ⟨fun _ => hs0, ?_⟩
              simp only [Act.put, rn8, List.setIfInBounds_toArray, List.set_cons_zero, List.set_cons_succ]
              refine z_all (rs := [9]) (by kernel_rfl) (by simp) (all1 ?_)
              refine op_ok (o := rn9) (v := .pointer (some ⟨g, iy * 3 + 1, none⟩)) (w' := w4.drew) rfl rfl (by simp only [rn9]; go_simp) ?_
              refine ⟨fun _ => hs0, ?_⟩
              simp only [Act.put, rn9, List.setIfInBounds_toArray, List.set_cons_zero, List.set_cons_succ]
              refine z_all (rs := [10]) (by kernel_rfl) (by simp) (all1 ?_)
              refine op_skip (o := rn10) (w' := w4.drew.setCell ⟨g, iy * 3 + 1, none⟩ (St to)) rfl rfl (by simp only [rn10]; go_simp) ?_
              refine ⟨fun h => absurd rfl h, ?_⟩
              refine z_done (by kernel_rfl) ?_ _
              simp only [Act.put, rn10]
              clear hs0
              go_wp2_with fail
              go_ret
              rw [HRE.out]
              exact ⟨rfl, HL.out⟩
end Go.Proofs.YtojnembakhhgiaaGreat
