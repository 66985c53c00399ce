import Derived.Test.YtojnembakhhgiaaGreatRjAll
/- The document's disk: rows copied. -/
namespace Go.Proofs.YtojnembakhhgiaaGreat
open Go.RowKit

theorem ocs_app (a b : List Dw) : ocs (a ++ b) = ocs a ++ ocs b := by unfold ocs; rw [List.flatMap_append]
theorem ocs_one (x : Dw) : ocs [x] = oc x := by unfold ocs; rw [List.flatMap_cons, List.flatMap_nil, List.append_nil]
theorem fcs_app (a b : List (Df × Value)) : fcs (a ++ b) = fcs a ++ fcs b := by unfold fcs; rw [List.flatMap_append]
/-- a write put behind a row of writes of one's own -/
theorem open_add {W : World} {base : Nat} {v : Value} {l : List Dw} (h : W.ownsRow base 95 3 v l.length (ocs l)) (x : Dw) (hl : l.length ≤ 1000000) (hb : base ≤ W.heap.size) : ∃ v' w', (∀ ty, (Builtin.append_ #[58, 58] ty #[v, .slice (some ⟨W.heap.size, 0, none⟩) 1 1]).run Tryz.prog (W.alloc (.cells #[.int .i64 (x.no : Int), .int .i64 (x.at' : Int), St x.pg] 95)) = .ok v' w') ∧ w'.ownsRow base 95 3 v' (l ++ [x]).length (ocs (l ++ [x])) ∧ W.grownBy w' v.ownBlock := by
  obtain ⟨i0, hi, hz0, hz1, hz2⟩ := info_get info90
  obtain ⟨v', w', h1, h2, h3, _, h4⟩ := run_append_own_at (P := Tryz.prog) (W.alloc (.cells #[.int .i64 (x.no : Int), .int .i64 (x.at' : Int), St x.pg] 95)) base 58 58 95 i0 _ 3 32 Tryz.underlying58 hi hz0 hz1 hz2 rfl (by decide) v l.length (ocs l) (h.alloc _) ⟨W.heap.size, 0, none⟩ 1 1 (oc x) rfl (fun j u hu => by
    rw [Addr.add_mid, Nat.zero_add, cell_of_heap (heap_alloc_new W _), List.getElem?_toArray]
    exact hu) (oc_one x) (by unfold maxLen; omega) (by omega) (by simp; omega)
  exact ⟨v', w', fun ty => h1, by rw [ocs_app, ocs_one, List.length_append]; exact h2, (World.grownBy_alloc W _ v.ownBlock).trans h3⟩
/-- some files of a row put behind a row of one's own -/
theorem files_add {W : World} {base : Nat} {v : Value} {l : List (Df × Value)} (h : W.ownsRow base 92 3 v l.length (fcs l)) (z : List (Df × Value)) (hz : ∀ x ∈ z, x.2.oneCell' = true) (ad : Addr) (c : Nat) (hs : ∀ j u, (fcs z)[j]? = some u → W.cell? (ad.add j) = some u) (hl : l.length + z.length ≤ 1000000) (hb : base ≤ W.heap.size) : ∃ v' w', (∀ ty, (Builtin.append_ #[57, 57] ty #[v, .slice (some ad) z.length c]).run Tryz.prog W = .ok v' w') ∧ w'.ownsRow base 92 3 v' (l ++ z).length (fcs (l ++ z)) ∧ W.grownBy w' v.ownBlock ∧ (v'.ownBlock = v.ownBlock ∨ v'.ownBlock = some W.heap.size) := by
  obtain ⟨i0, hi, hz0, hz1, hz2⟩ := info_get info87
  obtain ⟨v', w', h1, h2, h3, _, h4⟩ := run_append_own_at (P := Tryz.prog) W base 57 57 92 i0 _ 3 48 Tryz.underlying57 hi hz0 hz1 hz2 rfl (by decide) v l.length (fcs l) h ad z.length c (fcs z) (by unfold fcs; exact flat_len' (sz := 3) (fun x => rfl) z) hs (fun u hu => by
    unfold fcs at hu
    obtain ⟨x, hx, hu⟩ := List.mem_flatMap.1 hu
    exact fc_one x.1 (hz x hx) u hu) (by unfold maxLen; omega) (by omega) hb
  exact ⟨v', w', fun ty => h1, by rw [fcs_app, List.length_append]; exact h2, h3, h4⟩
theorem tx_one_cell {w : World} {v : Value} {l : List Bs} (h : Tx w v l) : v.oneCell' = true := by
  obtain ⟨ao, cap, rfl⟩ := row_shape h
  rfl
theorem zip_erase {α β : Type} : ∀ {l : List α} {k : List β} (i : Nat), (l.zip k).eraseIdx i = (l.eraseIdx i).zip (k.eraseIdx i)
  | [], _, i => by simp
  | _ :: _, [], i => by cases i <;> simp
  | a :: l, b :: k, 0 => rfl
  | a :: l, b :: k, i + 1 => by simp only [List.zip_cons_cons, List.eraseIdx_cons_succ, zip_erase i]
theorem filter_eraseD {l : List Df} (hn : (l.map Df.no).Nodup) {i : Nat} (hi : i < l.length) : l.filter (fun x => x.no != l[i].no) = l.eraseIdx i := by
  induction l generalizing i with
  | nil => simp at hi
  | cons a l ih =>
    obtain ⟨h1, h2⟩ := List.nodup_cons.1 (by simpa using hn : (a.no :: l.map Df.no).Nodup)
    cases i with
    | zero =>
      rw [List.filter_cons_of_neg (by simp), List.eraseIdx_cons_zero, List.filter_eq_self]
      intro x hx
      have : x.no ≠ a.no := fun e => h1 (e ▸ List.mem_map.2 ⟨x, hx, rfl⟩)
      simpa using this
    | succ i =>
      have hi' : i < l.length := by simpa using hi
      have : a.no ≠ l[i].no := fun e => h1 (e ▸ List.mem_map.2 ⟨l[i], List.getElem_mem hi', rfl⟩)
      rw [List.getElem_cons_succ, List.filter_cons_of_pos (by simpa using this), List.eraseIdx_cons_succ, ih h2 hi']
theorem drop_erase {s : Ds} (hok : Dok s) {i : Nat} (hi : i < s.files.length) : (dropF s s.files[i].no).files = s.files.eraseIdx i := filter_eraseD hok.nos hi
/-- the cells of files from a place on -/
theorem fcs_cells {w : World} {v : Value} {l : List (Df × Value)} (h : w.ownsRow 0 92 3 v l.length (fcs l)) {g cap : Nat} (hv : v = .slice (some ⟨g, 0, none⟩) l.length cap) (a m : Nat) (ham : a + m ≤ l.length) : ∀ j u, (fcs ((l.drop a).take m))[j]? = some u → w.cell? ((⟨g, a * 3, none⟩ : Addr).add j) = some u := fun j u hu => by
  have hlen : (fcs ((l.drop a).take m)).length = m * 3 := by
    unfold fcs
    rw [flat_len' (sz := 3) (fun x => rfl), List.length_take, List.length_drop]
    congr 1
    omega
  have hj : j < m * 3 := by rw [← hlen]; exact (List.getElem?_eq_some_iff.1 hu).1
  rw [Addr.add_mid]
  have hk : j / 3 < ((l.drop a).take m).length := by rw [List.length_take, List.length_drop]; omega
  have e1 := flat_at (f := fun x : Df × Value => fc x.1 x.2) (sz := 3) (fun x => rfl) ((l.drop a).take m) (j / 3) hk (j % 3) (by omega)
  rw [show j / 3 * 3 + j % 3 = j by omega] at e1
  have e2 : ((l.drop a).take m)[j / 3] = l[a + j / 3]'(by omega) := by rw [List.getElem_take, List.getElem_drop]
  rw [e2] at e1
  obtain ⟨g', cap', hv', _, hc⟩ := row_cells (f := fun x : Df × Value => fc x.1 x.2) (sz := 3) (fun x => rfl) (show w.ownsRow 0 92 3 v l.length (l.flatMap _) from h) (by omega)
  rw [hv] at hv'
  cases hv'
  have e3 := hc (a + j / 3) (by omega) (j % 3) (by omega)
  rw [show (a + j / 3) * 3 + j % 3 = a * 3 + j by omega] at e3
  rw [e3, ← e1]
  exact hu
end Go.Proofs.YtojnembakhhgiaaGreat

/- The document's disk: a file is dropped. -/
namespace Go.Proofs.YtojnembakhhgiaaGreat
open Go.RowKit

theorem notNo_snoc (ws : List Dw) (x : Dw) (no : Nat) : notNo (ws ++ [x]) no = notNo ws no ++ (if x.no = no then [] else [x]) := by
  unfold notNo
  rw [List.filter_append]
  by_cases e : x.no = no <;> simp [e]
/-- what is left when a file is dropped -/
def Rdrop (w : World) (q : Nat) (s : Ds) (ss : List Value) (ix no : Nat) (w' : World) : Prop := ∃ fv' ov', Rv w' q (dropF s no) fv' ov' (ss.eraseIdx ix) ∧ Kf [q] w w' ∧ ∀ g ∈ ob fv' ++ ob ov', w.heap.size ≤ g
theorem Rv.drop {w w' : World} {q : Nat} {s : Ds} {fv ov : Value} {ss : List Value} (h : Rv w q s fv ov ss) {ix : Nat} (hi : ix < s.files.length) {fv' ov' : Value} (hb : Below w.heap.size w w') (hf : w'.ownsRow w.heap.size 92 3 fv' ((s.files.zip ss).take ix ++ (s.files.zip ss).drop (ix + 1)).length (fcs ((s.files.zip ss).take ix ++ (s.files.zip ss).drop (ix + 1)))) (ho : w'.ownsRow w.heap.size 95 3 ov' (notNo s.opn s.files[ix].no).length (ocs (notNo s.opn s.files[ix].no))) (hap : ∀ g ∈ ob fv', g ∉ ob ov') : Rdrop w q s ss ix s.files[ix].no ((w'.setCell ⟨q, 1, none⟩ ov').setCell ⟨q, 0, none⟩ fv') := by
  obtain ⟨i, k, hq, hik, hi2⟩ := h.blk
  have hql := lt_of_block hq
  have hq' := (hb.block q hql).trans hq
  have hset : ∀ g, g ≠ q → ((w'.setCell ⟨q, 1, none⟩ ov').setCell ⟨q, 0, none⟩ fv').heap[g]? = w'.heap[g]? := fun g hg => by rw [Below.heap_setCell _ _ _ _ hg, Below.heap_setCell _ _ _ _ hg]
  have hfe := drop_erase h.ok hi
  have hil : ix < ss.length := by rw [h.len]; exact hi
  have hzip : (dropF s s.files[ix].no).files.zip (ss.eraseIdx ix) = (s.files.zip ss).take ix ++ (s.files.zip ss).drop (ix + 1) := by
    rw [hfe, ← zip_erase, List.eraseIdx_eq_take_drop_succ]
  have hln : (ss.eraseIdx ix).length = (dropF s s.files[ix].no).files.length := by
    rw [hfe, List.length_eraseIdx_of_lt hil, List.length_eraseIdx_of_lt hi, h.len]
  have hlz : ((s.files.zip ss).take ix ++ (s.files.zip ss).drop (ix + 1)).length = (dropF s s.files[ix].no).files.length := by
    rw [← hzip, List.length_zip, hln, Nat.min_self]
  have hge : ∀ g, g ∈ ob fv' ++ ob ov' → w.heap.size ≤ g := fun g hg => by
    rcases List.mem_append.1 hg with hg | hg
    · exact (own_ge hf (mem_ob.1 hg)).1
    · exact (own_ge ho (mem_ob.1 hg)).1
  have hssub : ∀ v ∈ ss.eraseIdx ix, v ∈ ss := fun v hv => (List.eraseIdx_sublist ss ix).subset hv
  refine ⟨fv', ov', ⟨⟨i, k, ?_, hik, hi2⟩, hln, ?_, fun x hx => ?_, ?_, ⟨fun hm => ?_, fun hm => ?_, hap⟩, fun v hv g hm hm2 => ?_, drop_ok h.ok _, h.off, h.small⟩, ?_, hge⟩
  · rw [heap_setCell_same (heap_setCell_same hq' 1 _) 0 _]
    rfl
  · rw [hzip, ← hlz]
    have := ownsRow_same hf (fun g hg => hset g (fun e => by have := hge g (by simp [mem_ob.2 hg]); omega))
    exact ⟨this.1, this.2.imp id (fun ⟨g, cap, cur, e1, e2, e3⟩ => ⟨g, cap, cur, e1, Nat.zero_le _, e3⟩)⟩
  · rw [hzip] at hx
    have hx' : x ∈ s.files.zip ss := by
      rcases List.mem_append.1 hx with h1 | h1
      · exact List.mem_of_mem_take h1
      · exact List.mem_of_mem_drop h1
    have h1 := h.set x hx'
    refine ownsRow_same h1 (fun g hg => (hset g (fun e => ?_)).trans (hb.block g (h1.lt g hg).2))
    exact h.ap2 x.2 (List.of_mem_zip hx').2 g (mem_ob.2 hg) (by rw [e]; simp)
  · show World.ownsRow _ 0 95 3 ov' (notNo s.opn s.files[ix].no).length (ocs (notNo s.opn s.files[ix].no))
    have := ownsRow_same ho (fun g hg => hset g (fun e => by have := hge g (by simp [mem_ob.2 hg]); omega))
    exact ⟨this.1, this.2.imp id (fun ⟨g, cap, cur, e1, e2, e3⟩ => ⟨g, cap, cur, e1, Nat.zero_le _, e3⟩)⟩
  · have := hge q (by simp [hm]); omega
  · have := hge q (by simp [hm]); omega
  · have hgl := h.lt (g := g) (List.mem_append.2 (.inr (List.mem_flatMap.2 ⟨v, hssub v hv, hm⟩)))
    rcases List.mem_cons.1 hm2 with e | e
    · exact h.ap2 v (hssub v hv) g hm (by rw [e]; simp)
    · have := hge g e
      omega
  · exact ((below_kf hb).trans (Kf.set (F := [q]) _ (by simp) _ _) (fun g hg => .inl hg)).trans (Kf.set (F := [q]) _ (by simp) _ _) (fun g hg => .inl hg)
end Go.Proofs.YtojnembakhhgiaaGreat
