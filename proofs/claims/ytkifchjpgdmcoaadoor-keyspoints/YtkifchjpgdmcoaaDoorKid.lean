/- What the reader's reading of a part does, where a term's reading is known. -/
import Derived.Deep.RegionLaw
import Derived.Test.YtkifchjpgdmcoaaDoorInAll
namespace Go.Proofs.YtkifchjpgdmcoaaDoor
open Go.RowKit

/-- a term's reading where no part is wanted -/
def TermC (n : Nat) : Prop :=
  ∀ {w0 : World} {B b : Nat} {s : ByteArray} {lv : Nat} {kp : Bool} {a : Nat} {nn : Int} {tx : ByteArray} {ks : List Bs} {w : World},
    RS w0 B b s lv kp a nn tx ks w → lv + n = 64 → (kp = true → 1 ≤ lv) →
    Calls Tryd.prog 88 #[rp b] w fun en w' =>
      Ends (Tm.rd n (rest s a)) (fun x => en = .returned (.int .i64 x.1) ∧ RS w0 B b s lv kp (s.size - x.2.length) nn tx ks w')
        (en = .returned (.int .i64 0) ∧ Bad w0 B b s lv kp w')

/-- append onto a row of one's own, as one step of a region that draws -/
theorem step_append_mine {P : Program} {ops : Array Oper} {o : Oper} {a : Act} {w : World} {K : Act → World → Prop} {Q : Exit → Act → World → Prop} {E : Prop}
    (hg : o.guard = none) (s x : Operand) (t : TypeId) (hop : o.op = Op.call { callee := Callee.builtin Builtin.append, args := #[s, x], argTypes := #[t, t] })
    (e : TypeId) (i : TypeInfo) (z : Value) (size bytes : Nat) (h1 : P.underlying t = some (.slice e)) (h2 : P.info? e = some i) (h3 : i.zero = some z) (h4 : i.size = size) (h5 : i.bytes = bytes) (h6 : z.cells.size = size) (h7 : 0 < size)
    (base : Nat) (v : Value) (n : Nat) (olds : List Value) (hs : a.eval s = v) (hown : w.ownsRow base e size v n olds)
    (ad : Addr) (m c : Nat) (news : List Value) (hx : a.eval x = .slice (some ad) m c) (hn : news.length = m * size) (hc : ∀ j u, news[j]? = some u → w.cell? (ad.add j) = some u) (h1c : ∀ u ∈ news, u.oneCell' = true)
    (b1 : n + m ≤ maxLen) (b2 : (n + m) * bytes ≤ 140737488355328) (hbase : base ≤ w.heap.size)
    (hK : ∀ v' w', w'.ownsRow base e size v' (n + m) (olds ++ news) → w.grownBy w' v.ownBlock → K (a.put o.dst v') w') :
    if Region.wanted o (yielded ops a.tmps) = true then Oper.wp P o a w K Q else E := by
  have hw : Region.wanted o (yielded ops a.tmps) = true := by simp [Region.wanted, hg]
  rw [if_pos hw]
  obtain ⟨v', w', hrun, r1, r2, _⟩ := run_append_own (P := P) w base t o.type e i z size bytes h1 h2 h3 h4 h5 h6 h7 v n olds hown ad m c news hn hc h1c b1 b2 hbase
  unfold Oper.wp
  simp [execOp, hop, resolve, invoke, builtin, hs, hx, hrun, Result.andThen]
  exact hK v' w' r1 r2

theorem Tryd.info22 : (Tryd.prog.info? 22).map (fun i => (i.zero, i.size, i.bytes)) = some (some (.string ByteArray.empty), 1, 16) := by kernel_rfl

theorem ownsRow_new {w : World} {base : Nat} {e : TypeId} {size : Nat} {v : Value} {n : Nat} {xs : List Value} (h : w.ownsRow base e size v n xs) (o : Obj) : (w.alloc o).drew.ownsRow base e size v n xs := by
  obtain ⟨h1, h2⟩ := h
  refine ⟨h1, ?_⟩
  rcases h2 with h2 | ⟨g, cap, cur, e1, e2, e3, e4⟩
  · exact Or.inl h2
  · refine Or.inr ⟨g, cap, cur, e1, e2, ?_, e4⟩
    have hg : g < w.heap.size := by
      apply Classical.byContradiction
      intro hn
      rw [Array.getElem?_eq_none (by omega)] at e3
      cases e3
    show (w.alloc o).heap[g]? = _
    rw [Below.heap_alloc w o g hg]
    exact e3

/-- behind the append of a part -/
theorem kid_after {w0 : World} {B b : Nat} {s : ByteArray} {lv : Nat} {kp : Bool} {j : Nat} {nn : Int} {tx : ByteArray} {ks : List Bs} {w2 w' : World} {kids v' : Value} {o : Obj} {p : Bs}
    (h : RS w0 B b s lv kp j nn tx ks w2) (hk : w2.heap[b]? = some (.cells (rcells s j lv kp 0 nn tx kids) 83 (0, 0))) (ho : w2.ownsRow (b + 1) 22 1 kids ks.length (ks.map St)) (hB : B ≤ b + 1) (hkl : ks.length + 1 ≤ j)
    (hown : w'.ownsRow (b + 1) 22 1 v' (ks.length + 1) (ks.map St ++ [St p])) (hg : (w2.alloc o).drew.grownBy w' kids.ownBlock) :
    ∃ g cap, v' = .slice (some ⟨g, 0, none⟩) ((ks.length + 1 : Nat)) cap ∧ w'.cell? ⟨b, 7, none⟩ = some kids ∧ w'.frozen? ⟨b, 7, none⟩ = false ∧ Hid (RS w0 B b s lv kp j nn tx (ks ++ [p]) (w'.setCell ⟨b, 7, none⟩ v')) := by
  have hbs : b < w2.heap.size := by have := h.fr.size; have := h.hb; omega
  have hne : ∀ k, k ≤ b → some k ≠ kids.ownBlock := by
    intro k hkb he
    have := ho.lt k he.symm
    omega
  have hs1 : (w2.alloc o).drew.heap.size = w2.heap.size + 1 := by show (w2.heap.push o).size = _; simp
  have hold : ∀ k, k ≤ b → w'.heap[k]? = w2.heap[k]? := by
    intro k hkb
    rw [hg.block k (by rw [hs1]; omega) (hne k hkb)]
    exact Below.heap_alloc w2 o k (by omega)
  have hk' : w'.heap[b]? = some (.cells (rcells s j lv kp 0 nn tx kids) 83 (0, 0)) := by rw [hold b (Nat.le_refl _)]; exact hk
  obtain ⟨g, cap, hv⟩ : ∃ g cap, v' = .slice (some ⟨g, 0, none⟩) ((ks.length + 1 : Nat)) cap := by
    rcases hown.2 with ⟨_, h⟩ | ⟨g, cap', _, h, _⟩
    · omega
    · exact ⟨g, cap', h⟩
  refine ⟨g, cap, hv, by rw [cell_of_heap hk']; rfl, frozen_of_heap hk' _, ?_⟩
  refine ⟨h.le, ?_, h.hb, h.hB, h.sz, by simp; omega, h.lvb, v', ?_, ?_⟩
  · refine ⟨hg.os.trans h.fr.os, hg.tape.trans h.fr.tape, hg.output.trans h.fr.output, ?_, fun k hkB hkb => ?_⟩
    · have := hg.size
      have := h.fr.size
      simp only [World.setCell, Array.size_modify]
      omega
    · rw [Below.heap_setCell _ _ _ _ hkb, hold k (by omega)]
      exact h.fr.block k hkB hkb
  · rw [heap_setCell_same hk']
    rfl
  · have := ownsRow_setCell_at hown 7 v'
    simpa using this

set_option maxHeartbeats 1000000 in
theorem kid_any {n : Nat} (hT : TermC n) (hn : n < 64) : KidC n := by
  intro w0 B b s lv kp a nn tx ks w h hl hB
  have hle := h.le
  have hsz := h.sz
  have hkl := h.kl
  have hlv : kp = true → 1 ≤ lv := fun _ => by omega
  obtain ⟨c0, c1, c2, c3, hf⟩ := h.cells
  have HR := hid h
  have HB0 := hid hB
  clear h hB
  cases hr : Tm.rd n (rest s a) with
  | none =>
    have H1 := hid hr
    clear hr
    go_enter Tryd.func108, Tryd.ntmps108
    go_wp2_with fail
    refine (hT HR.out hl hlv).mono ?_
    rintro e w' hE
    obtain ⟨rfl, hb⟩ := hE.none H1.out
    have HB := hid hb
    clear hE hb
    go_wp2_with fail
    go_ret
    exact ends_none rfl ⟨rfl, HB.out⟩
  | some x =>
    obtain ⟨d, r⟩ := x
    have hd := Tm.rd_len hr
    have hd1 := hd.2.1
    have hd2 := hd.2.2.1
    obtain ⟨q1, q2, q3, q4, q5, q6⟩ := rd_rest hle hr
    have H1 := hid hr
    have Q1 := hid q1
    have Q6 := hid q6
    clear hr hd q1 q6
    go_enter Tryd.func108, Tryd.ntmps108
    go_wp2_with fail
    refine (hT HR.out hl hlv).mono ?_
    rintro e w1 hE
    obtain ⟨rfl, hb⟩ := hE.some H1.out
    have HB := hid hb
    clear hE hb
    have hz : (0 : Int) < (d : Int) := by omega
    go_wp2_with fail
    refine (wanted_any HB.out).mono ?_
    rintro e w2 ⟨rfl, rfl⟩
    cases hw : wt kp lv
    · have hw2 : (kp && lv == 1) = false := hw
      have HW := hid hw
      clear hw
      rw [hw2]
      clear hw2
      go_wp2_with fail
      go_ret
      refine ends_some rfl ⟨rfl, ?_⟩
      simpa [HW.out, upd] using HB.out
    · have hw2 : (kp && lv == 1) = true := hw
      have hBb := HB0.out hw
      have HW := hid hw
      clear hw
      rw [hw2]
      clear hw2
      have hbs := HB.out
      obtain ⟨c0, c1, c2, c3, hf⟩ := hbs.cells
      obtain ⟨kids, hk, ho⟩ := hbs.blk
      have c7 : w2.cell? ⟨b, 7, none⟩ = some kids := by rw [cell_of_heap hk]; rfl
      have HO := hid ho
      have HK := hid hk
      clear hbs ho hk
      generalize hj : s.size - r.length = j at *
      have HJ := hid hj
      clear hj
      obtain ⟨i0, hi, hz0, hz1, hz2⟩ := info_parts Tryd.info22
      have haj : a ≤ j := by omega
      have hbs2 : b < w2.heap.size := by have := HB.out.fr.size; have := HB.out.hb; omega
      go_wp2_with fail
      have hown1 := fun o => ownsRow_new HO.out o
      have hj1 : ks.length + 1 ≤ j := by omega
      have HP : Hid (s.extract a j = ⟨(Tm.used (rest s a) r).toArray⟩) := by
        apply hid
        rw [Q6.out]
        exact ba_eq (Lib.extract_data s a j)
      go_region_law (refine step_append_mine rfl (.tmp 22) (.tmp 33) 47 rfl 22 i0 _ 1 16 Tryd.underlying47 hi hz0 hz1 hz2 rfl (by decide) (b + 1) kids ks.length (ks.map St) rfl (hown1 _) ⟨w2.heap.size, 0, none⟩ 1 1 [.string (s.extract a j)] rfl rfl (cell_one_new _ _ _) (by intro u hu; simp at hu; subst hu; rfl) (by unfold maxLen; omega) (by omega) (by simp; omega) ?_; intro v' w' hown hgrow; rw [HP.out] at hown; obtain ⟨g, cap, rfl, c7', f7', HRS⟩ := kid_after HB.out HK.out HO.out hBb hj1 hown hgrow; clear hown hgrow)
      all_goals
        go_wp2_with fail
        go_ret
        refine ends_some rfl ⟨rfl, ?_⟩
        show RS w0 B b s lv kp (s.size - r.length) _ _ _ _
        rw [HJ.out, HW.out, kids1_some H1.out]
        simp only [upd, if_true, keepN, keepX]
        first | exact HRS.out | exact HRS.out.drew
end Go.Proofs.YtkifchjpgdmcoaaDoor
