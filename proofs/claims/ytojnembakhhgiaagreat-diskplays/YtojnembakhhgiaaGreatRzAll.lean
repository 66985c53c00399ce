import Derived.Test.YtojnembakhhgiaaGreatRsAll
/- The document's disk: On, its mathematics. -/
namespace Go.Proofs.YtojnembakhhgiaaGreat
open Go.RowKit

theorem stay_snoc (keep : Nat) : ∀ (n : Nat) (ws : List Dw) (x : Dw), stay keep n (ws ++ [x]) = stay keep n ws ++ (if bitK keep (n + ws.length) = true then [x] else [])
  | n, [], x => by
    show (if bitK keep n = true then [x] else []) = _
    rw [List.length_nil, Nat.add_zero]
    rfl
  | n, w :: ws, x => by
    rw [List.cons_append, stay, stay, stay_snoc keep (n + 1) ws x, List.length_cons, show n + (ws.length + 1) = n + 1 + ws.length by omega]
    split
    · rfl
    · rfl
def cutO (s : Ds) : Ds := { s with opn := stay s.keep 0 s.opn }
theorem cut_ok {s : Ds} (h : Dok s) : Dok (cutO s) :=
  ⟨h.quota, h.nos, h.names, h.lens, h.few, h.next, h.pgs, fun w hw => h.own w ((stay_sub s.keep 0 s.opn).subset hw), h.rise.sublist ((stay_sub s.keep 0 s.opn).map _)⟩
theorem cut_used (s : Ds) : usedN (cutO s) ≤ usedN s :=
  sum_le (fun f _ => layAll_len_sub (ofNo_sub (stay_sub s.keep 0 s.opn) f.no) f.settled)
theorem layAll_len_in : ∀ (ws : List Dw) (l : List Bs), (∀ w ∈ ws, w.at' + 1 ≤ l.length) → (layAll l ws).length = l.length
  | [], _, _ => rfl
  | w :: ws, l, h => by
    have h1 := lay_len l w.at' w.pg
    have h2 := h w (by simp)
    have h3 := layAll_len_in ws (lay l w.at' w.pg) (fun u hu => by have := h u (by simp [hu]); omega)
    show (layAll (lay l w.at' w.pg) ws).length = _
    rw [h3, h1]
    omega
def settle (s : Ds) (f : Df) : Df := { f with settled := pagesOf s f }
def setO (s : Ds) (j : Nat) : Ds := { s with files := (s.files.take j).map (settle s) ++ s.files.drop j }
theorem set0 (s : Ds) : setO s 0 = s := rfl
theorem set_len {s : Ds} {j : Nat} (hj : j ≤ s.files.length) : (setO s j).files.length = s.files.length := by
  show ((s.files.take j).map (settle s) ++ s.files.drop j).length = _
  rw [List.length_append, List.length_map, List.length_take, List.length_drop]
  omega
theorem set_at {s : Ds} {j : Nat} (hj : j < s.files.length) : (setO s j).files[j]'(by rw [set_len (Nat.le_of_lt hj)]; exact hj) = s.files[j] := by
  have e : (setO s j).files[j]? = s.files[j]? := by
    show ((s.files.take j).map (settle s) ++ s.files.drop j)[j]? = _
    rw [List.getElem?_append_right (by rw [List.length_map, List.length_take]; omega), List.length_map, List.length_take, List.getElem?_drop]
    congr 1
    omega
  rw [List.getElem?_eq_getElem (by rw [set_len (Nat.le_of_lt hj)]; exact hj), List.getElem?_eq_getElem hj] at e
  exact Option.some.inj e
theorem set_next {s : Ds} {j : Nat} (hj : j < s.files.length) : (setO s (j + 1)).files = (setO s j).files.set j (settle s s.files[j]) := by
  show (s.files.take (j + 1)).map (settle s) ++ s.files.drop (j + 1) = ((s.files.take j).map (settle s) ++ s.files.drop j).set j _
  have hl : ((s.files.take j).map (settle s)).length = j := by rw [List.length_map, List.length_take]; omega
  rw [List.set_append_right _ _ (by omega), hl, Nat.sub_self, List.drop_eq_getElem_cons hj, List.set_cons_zero, List.take_add_one, List.getElem?_eq_getElem hj, List.map_append]
  simp
theorem set_pages {s : Ds} (j : Nat) (f : Df) : pagesOf (setO s j) f = pagesOf s f := rfl
theorem set_mem {s : Ds} {j : Nat} {f : Df} (hf : f ∈ (setO s j).files) : ∃ g ∈ s.files, f = g ∨ f = settle s g := by
  rcases List.mem_append.1 (show f ∈ (s.files.take j).map (settle s) ++ s.files.drop j from hf) with h | h
  · obtain ⟨g, hg, rfl⟩ := List.mem_map.1 h
    exact ⟨g, List.mem_of_mem_take hg, .inr rfl⟩
  · exact ⟨f, List.mem_of_mem_drop h, .inl rfl⟩
theorem set_map {α : Type} (φ : Df → α) (hφ : ∀ s f, φ (settle s f) = φ f) (s : Ds) (j : Nat) : (setO s j).files.map φ = s.files.map φ := by
  show ((s.files.take j).map (settle s) ++ s.files.drop j).map φ = _
  rw [List.map_append, List.map_map, show φ ∘ settle s = φ from funext (fun f => hφ s f), ← List.map_append, List.take_append_drop]
theorem set_ok {s : Ds} (h : Dok s) (j : Nat) : Dok (setO s j) := by
  have hlen : (setO s j).files.length = s.files.length := by have := congrArg List.length (set_map Df.no (fun _ _ => rfl) s j); simpa using this
  refine ⟨h.quota, by rw [set_map Df.no (fun _ _ => rfl)]; exact h.nos, by rw [set_map Df.name (fun _ _ => rfl)]; exact h.names, fun f hf => ?_, by rw [hlen]; exact h.few, fun f hf => ?_, fun f hf => ?_, fun w hw => ?_, h.rise⟩
  · obtain ⟨g, hg, e | e⟩ := set_mem hf
    · rw [e]; exact h.lens g hg
    · rw [e]; exact h.lens g hg
  · obtain ⟨g, hg, e | e⟩ := set_mem hf
    · rw [e]; exact h.next g hg
    · rw [e]; exact h.next g hg
  · obtain ⟨g, hg, e | e⟩ := set_mem hf
    · rw [e]; exact h.pgs g hg
    · rw [e]; exact pages_ok h hg
  · obtain ⟨a, b, f, hf, e⟩ := h.own w hw
    refine ⟨a, b, ?_⟩
    have : f.no ∈ (setO s j).files.map Df.no := by rw [set_map Df.no (fun _ _ => rfl)]; exact List.mem_map.2 ⟨f, hf, rfl⟩
    obtain ⟨f', hf', e'⟩ := List.mem_map.1 this
    exact ⟨f', hf', e'.trans e⟩
theorem set_used {s : Ds} (j : Nat) : usedN (setO s j) = usedN s := by
  have key : ∀ l : List Df, ((l.map (settle s)).map fun f => (pagesOf s f).length).sum = (l.map fun f => (pagesOf s f).length).sum := fun l => by
    rw [List.map_map]
    refine sum_eq (fun f _ => ?_)
    show (layAll (pagesOf s f) (ofNo s.opn f.no)).length = (pagesOf s f).length
    exact layAll_len_in _ _ (fun w hw => layAll_len_at _ _ w hw)
  show (((s.files.take j).map (settle s) ++ s.files.drop j).map fun f => (pagesOf s f).length).sum = (s.files.map fun f => (pagesOf s f).length).sum
  rw [List.map_append, List.sum_append, key, ← List.sum_append, ← List.map_append, List.take_append_drop]
theorem on_is {s : Ds} (ho : s.off = true) : onD s = { setO (cutO s) s.files.length with opn := [], off := false, set := false, inn := 0, keep := 0 } := by
  unfold onD
  rw [if_neg (by rw [ho]; decide)]
  show _ = ({ s with files := (s.files.take s.files.length).map (settle (cutO s)) ++ s.files.drop s.files.length, opn := [], off := false, set := false, inn := 0, keep := 0 } : Ds)
  rw [List.take_length, List.drop_length, List.append_nil]
  rfl
theorem rzip_set2 {s : List Df} {ss : List Value} (i : Nat) (x : Df) (v : Value) : (s.set i x).zip (ss.set i v) = (s.zip ss).set i (x, v) := by
  refine List.ext_getElem (by simp) (fun k h1 h2 => ?_)
  rw [List.getElem_zip, List.getElem_set, List.getElem_set, List.getElem_set]
  by_cases e : i = k
  · subst e
    rw [if_pos rfl, if_pos rfl, if_pos rfl]
  · rw [if_neg e, if_neg e, if_neg e, List.getElem_zip]
/-- a file's settled pages changed -/
theorem Rv.settle {w w5 : World} {q : Nat} {s s' : Ds} {fv ov : Value} {ss : List Value} (h : Rv w q s fv ov ss) {i : Nat} (hi : i < s.files.length) {g n cap : Nat} (hv : fv = .slice (some ⟨g, 0, none⟩) n cap) (hB : Below w.heap.size w w5) {v5 : Value} {P : List Bs} (ht : Tx w5 v5 P) (hown : ∀ k ∈ ob v5, k ∈ Rr ss ∨ w.heap.size ≤ k) (hs' : s' = { s with files := s.files.set i { s.files[i] with settled := P } }) (hok : Dok s') :
    Rv (w5.setCell ⟨g, i * 3 + 2, none⟩ v5) q s' fv ov (ss.set i v5) ∧ Kf (Rm q fv ov) w (w5.setCell ⟨g, i * 3 + 2, none⟩ v5) ∧ ∀ k ∈ Rm q fv ov ++ Rr (ss.set i v5), k ∈ Rm q fv ov ++ Rr ss ∨ w.heap.size ≤ k := by
  have hgm : g ∈ ob fv := mem_ob.2 (by rw [hv]; rfl)
  have hgl : g < w.heap.size := (h.fil.lt g (mem_ob.1 hgm)).2
  obtain ⟨ao, cap', hsh⟩ := row_shape h.fil
  have hfil := h.fil
  rw [hv] at hsh hfil
  cases hsh
  have hfil5 : w5.ownsRow 0 92 3 (.slice (some ⟨g, 0, none⟩) s.files.length cap) s.files.length (fcs (s.files.zip ss)) := ownsRow_same hfil (fun k hk => hB.block k (hfil.lt k hk).2)
  have hl : ss.length = s.files.length := h.len
  have hzl : (s.files.zip ss).length = s.files.length := by rw [List.length_zip, h.len]; omega
  have hne : ∀ k, k ≠ g → (w5.setCell ⟨g, i * 3 + 2, none⟩ v5).heap[k]? = w5.heap[k]? := fun k hk => Below.heap_setCell _ _ _ _ hk
  have hq : q ≠ g := fun e => h.ap1.1 (e ▸ hgm)
  have hgs : ∀ k ∈ Rr ss, k ≠ g := fun k hk e => by
    obtain ⟨v, hv, hk⟩ := List.mem_flatMap.1 hk
    exact h.ap2 v hv k hk (by rw [e]; exact List.mem_cons_of_mem _ (List.mem_append_left _ hgm))
  obtain ⟨i0, k0, hb, hik, hi2⟩ := h.blk
  have hql := lt_of_block hb
  have hsf : s'.files = s.files.set i { s.files[i] with settled := P } := by rw [hs']
  have hso : s'.opn = s.opn := by rw [hs']
  have hlen : s'.files.length = s.files.length := by rw [hsf, List.length_set]
  refine ⟨⟨⟨i0, k0, ?_, by rw [hs']; exact hik, hi2⟩, ?_, ?_, fun x hx => ?_, ?_, h.ap1, fun v hvm k hk hm => ?_, hok, by rw [hs']; exact h.off, by rw [hs']; exact h.small⟩, ?_, fun k hk => ?_⟩
  · rw [hs']
    exact (hne q hq).trans ((hB.block q hql).trans hb)
  · rw [hlen, List.length_set]; exact h.len
  · rw [hlen, hsf, rzip_set2, hv]
    have e := rflat_set (f := fun x : Df × Value => fc x.1 x.2) (sz := 3) fc_len (s.files.zip ss) i (by omega) ({ s.files[i] with settled := P }, v5) 2 v5 (by omega) (by rw [List.getElem_zip]; rfl)
    unfold fcs
    rw [e]
    exact row_set hfil5 (by omega) _ _
  · have hx2 : x ∈ (s.files.zip ss).set i ({ s.files[i] with settled := P }, v5) := by rw [← rzip_set2, ← hsf]; exact hx
    rcases List.mem_or_eq_of_mem_set hx2 with h5 | h5
    · have h1 := h.set x h5
      exact ownsRow_same h1 (fun k hk => (hne k (hgs k (List.mem_flatMap.2 ⟨x.2, (List.of_mem_zip h5).2, mem_ob.2 hk⟩))).trans (hB.block k (h1.lt k hk).2))
    · rw [h5]
      refine ownsRow_same ht (fun k hk => hne k (fun e => ?_))
      rcases hown k (mem_ob.2 hk) with h6 | h6
      · exact hgs k h6 e
      · omega
  · rw [hso]
    exact ownsRow_same h.opn (fun k hk => (hne k (fun e => h.ap1.2.2 g hgm (e ▸ mem_ob.2 hk))).trans (hB.block k (h.opn.lt k hk).2))
  · rcases List.mem_or_eq_of_mem_set hvm with h5 | h5
    · exact h.ap2 v h5 k hk hm
    · rw [h5] at hk
      rcases hown k hk with h6 | h6
      · obtain ⟨v', hv', hk'⟩ := List.mem_flatMap.1 h6
        exact h.ap2 v' hv' k hk' hm
      · have := h.lt (g := k) (List.mem_append.2 (.inl hm))
        omega
  · exact (below_kf hB).trans (Kf.set (F := [g]) _ (by simp) _ _) (fun k hk => .inl (by
      have : k = g := by simpa using hk
      rw [this]
      exact List.mem_cons_of_mem _ (List.mem_append_left _ hgm)))
  · rcases List.mem_append.1 hk with h5 | h5
    · exact .inl (List.mem_append_left _ h5)
    · obtain ⟨v, hvm, hk2⟩ := List.mem_flatMap.1 h5
      rcases List.mem_or_eq_of_mem_set hvm with h6 | h6
      · exact .inl (List.mem_append_right _ (List.mem_flatMap.2 ⟨v, h6, hk2⟩))
      · rw [h6] at hk2
        rcases hown k hk2 with h7 | h7
        · exact .inl (List.mem_append_right _ h7)
        · exact .inr h7
/-- the row of writes changed for a new one -/
theorem Rv.opened {w w5 : World} {q : Nat} {s s' : Ds} {fv ov ov' : Value} {ss : List Value} (h : Rv w q s fv ov ss) (hB : Below w.heap.size w w5) (ho : w5.ownsRow w.heap.size 95 3 ov' s'.opn.length (ocs s'.opn)) (hs' : s' = { s with opn := s'.opn }) (hok : Dok s') :
    Rv (w5.setCell ⟨q, 1, none⟩ ov') q s' fv ov' ss ∧ Kf (Rm q fv ov) w (w5.setCell ⟨q, 1, none⟩ ov') ∧ ∀ k ∈ Rm q fv ov' ++ Rr ss, k ∈ Rm q fv ov ++ Rr ss ∨ w.heap.size ≤ k := by
  obtain ⟨i0, k0, hb, hik, hi2⟩ := h.blk
  have hql := lt_of_block hb
  have hb5 := (hB.block q hql).trans hb
  have hne : ∀ k, k ≠ q → (w5.setCell ⟨q, 1, none⟩ ov').heap[k]? = w5.heap[k]? := fun k hk => Below.heap_setCell _ _ _ _ hk
  have hge : ∀ k ∈ ob ov', w.heap.size ≤ k := fun k hk => (own_ge ho (mem_ob.1 hk)).1
  have hsf : s'.files = s.files := by rw [hs']
  have hold : ∀ k, k < w.heap.size → k ≠ q → (w5.setCell ⟨q, 1, none⟩ ov').heap[k]? = w.heap[k]? := fun k hk hkq => (hne k hkq).trans (hB.block k hk)
  refine ⟨⟨⟨i0, k0, ?_, by rw [hs']; exact hik, hi2⟩, by rw [hsf]; exact h.len, ?_, fun x hx => ?_, ?_, ⟨h.ap1.1, fun hm => ?_, fun k hm hm2 => ?_⟩, fun v hvm k hm hm2 => ?_, hok, by rw [hs']; exact h.off, by rw [hs']; exact h.small⟩, ?_, fun k hk => ?_⟩
  · rw [heap_setCell_same hb5 1 _, hs']
    rfl
  · rw [hsf]
    exact ownsRow_same h.fil (fun k hk => hold k (h.fil.lt k hk).2 (fun e => h.ap1.1 (e ▸ mem_ob.2 hk)))
  · rw [hsf] at hx
    have h1 := h.set x hx
    exact ownsRow_same h1 (fun k hk => hold k (h1.lt k hk).2 (fun e => h.ap2 x.2 (List.of_mem_zip hx).2 k (mem_ob.2 hk) (by rw [e]; simp)))
  · have := ownsRow_same ho (fun k hk => hne k (fun e => by have := hge k (mem_ob.2 hk); omega))
    exact ⟨this.1, this.2.imp id (fun ⟨g, cap, cur, e1, e2, e3⟩ => ⟨g, cap, cur, e1, Nat.zero_le _, e3⟩)⟩
  · have := hge q hm; omega
  · have := hge k hm2
    have := (h.fil.lt k (mem_ob.1 hm)).2
    omega
  · have hkl := h.lt (g := k) (List.mem_append.2 (.inr (List.mem_flatMap.2 ⟨v, hvm, hm⟩)))
    have h3 := h.ap2 v hvm k hm
    simp only [List.mem_cons, List.mem_append, not_or] at h3 hm2
    rcases hm2 with e | e | e
    · exact h3.1 e
    · exact h3.2.1 e
    · have := hge k e; omega
  · exact (below_kf hB).trans (Kf.set (F := [q]) _ (by simp) _ _) (fun k hk => .inl (by simp at hk; simp [Rm, hk]))
  · rcases List.mem_append.1 hk with h5 | h5
    · rcases List.mem_cons.1 h5 with h6 | h6
      · exact .inl (by simp [Rm, h6])
      · rcases List.mem_append.1 h6 with h7 | h7
        · exact .inl (by simp [Rm, h7])
        · exact .inr (hge k h7)
    · exact .inl (List.mem_append_right _ h5)
/-- nothing is open, the power is back -/
theorem Rv.fin {w : World} {q : Nat} {s s' : Ds} {fv ov : Value} {ss : List Value} (h : Rv w q s fv ov ss) (hs' : s' = { s with opn := [], off := false, set := false, inn := 0, keep := 0 }) (hok : Dok s') :
    Rv (((w.setCell ⟨q, 1, none⟩ (.slice none 0 0)).setCell ⟨q, 8, none⟩ (.bool false)).setCell ⟨q, 5, none⟩ (.bool false)) q s' fv (.slice none 0 0) ss ∧ Kf (Rm q fv ov) w (((w.setCell ⟨q, 1, none⟩ (.slice none 0 0)).setCell ⟨q, 8, none⟩ (.bool false)).setCell ⟨q, 5, none⟩ (.bool false)) := by
  obtain ⟨i0, k0, hb, hik, hi2⟩ := h.blk
  have hne : ∀ k, k ≠ q → (((w.setCell ⟨q, 1, none⟩ (.slice none 0 0)).setCell ⟨q, 8, none⟩ (.bool false)).setCell ⟨q, 5, none⟩ (.bool false)).heap[k]? = w.heap[k]? := fun k hk => by rw [Below.heap_setCell _ _ _ _ hk, Below.heap_setCell _ _ _ _ hk, Below.heap_setCell _ _ _ _ hk]
  have hsf : s'.files = s.files := by rw [hs']
  refine ⟨⟨⟨i0, k0, ?_, fun e => (by rw [hs'] at e; cases e), hi2⟩, by rw [hsf]; exact h.len, ?_, fun x hx => ?_, ?_, ⟨h.ap1.1, fun hm => (by cases hm), fun _ _ hm => (by cases hm)⟩, fun v hvm k hm hm2 => ?_, hok, fun e => (by rw [hs'] at e; cases e), by rw [hs']; exact h.small⟩, ?_⟩
  · rw [heap_setCell_same (heap_setCell_same (heap_setCell_same hb 1 _) 8 _) 5 _, hs']
    rfl
  · rw [hsf]
    exact ownsRow_same h.fil (fun k hk => hne k (fun e => h.ap1.1 (e ▸ mem_ob.2 hk)))
  · rw [hsf] at hx
    exact ownsRow_same (h.set x hx) (fun k hk => hne k (fun e => h.ap2 x.2 (List.of_mem_zip hx).2 k (mem_ob.2 hk) (by rw [e]; simp)))
  · rw [show s'.opn = [] by rw [hs']]
    exact World.ownsRow_nil _ _ _ _
  · have h3 := h.ap2 v hvm k hm
    simp only [List.mem_cons, List.mem_append, not_or] at h3 hm2
    rcases hm2 with e | e | e
    · exact h3.1 e
    · exact h3.2.1 e
    · cases e
  · have hqm : q ∈ Rm q fv ov := by simp [Rm]
    exact ((Kf.set w hqm _ _).trans (Kf.set _ hqm _ _) (fun _ h => .inl h)).trans (Kf.set _ hqm _ _) (fun _ h => .inl h)
end Go.Proofs.YtojnembakhhgiaaGreat

/- The document's disk: On, the walk. -/
namespace Go.Proofs.YtojnembakhhgiaaGreat
open Go.RowKit

def on0 : Oper := { dst := some 51, op := Go.Op.move (Go.Operand.tmp 0), type := 26, pos := "ref.go:278", after := #[], guard := none }
def on1 : Oper := { dst := some 52, op := Go.Op.nilCheck (Go.Operand.tmp 51), type := 0, pos := "ref.go:278", after := #[{ on := 0, ground := Go.Ground.data }], guard := none }
def on2 : Oper := { dst := some 53, op := Go.Op.fieldAddr 60 (Go.Operand.tmp 52) 0, type := 0, pos := "ref.go:278", after := #[{ on := 1, ground := Go.Ground.data }], guard := none }
def on3 : Oper := { dst := some 54, op := Go.Op.load 57 (Go.Operand.tmp 53), type := 57, pos := "ref.go:278", after := #[{ on := 2, ground := Go.Ground.data }], guard := none }
def on4 : Oper := { dst := some 55, op := Go.Op.move (Go.Operand.tmp 4), type := 3, pos := "ref.go:278", after := #[], guard := none }
def on5 : Oper := { dst := some 56, op := Go.Op.move (Go.Operand.tmp 0), type := 26, pos := "ref.go:278", after := #[], guard := none }
def on6 : Oper := { dst := some 57, op := Go.Op.move (Go.Operand.tmp 4), type := 3, pos := "ref.go:278", after := #[], guard := none }
def on7 : Oper := { dst := some 58, op := Go.Op.call { callee := Go.Callee.value (Go.Operand.func 60), args := #[Go.Operand.tmp 56, Go.Operand.tmp 57], argTypes := #[26, 3] }, type := 41, pos := "ref.go:278", after := #[{ on := 5, ground := Go.Ground.data }, { on := 6, ground := Go.Ground.data }], guard := none }
def on8 : Oper := { dst := some 59, op := Go.Op.indexAddr 57 (Go.Operand.tmp 54) (Go.Operand.tmp 55), type := 0, pos := "ref.go:278", after := #[{ on := 3, ground := Go.Ground.data }, { on := 4, ground := Go.Ground.data }, { on := 0, ground := Go.Ground.phase }, { on := 1, ground := Go.Ground.phase }, { on := 2, ground := Go.Ground.phase }, { on := 3, ground := Go.Ground.phase }, { on := 4, ground := Go.Ground.phase }, { on := 5, ground := Go.Ground.phase }, { on := 6, ground := Go.Ground.phase }, { on := 7, ground := Go.Ground.phase }], guard := none }
def on9 : Oper := { dst := some 60, op := Go.Op.fieldAddr 92 (Go.Operand.tmp 59) 2, type := 0, pos := "ref.go:278", after := #[{ on := 8, ground := Go.Ground.data }, { on := 0, ground := Go.Ground.phase }, { on := 1, ground := Go.Ground.phase }, { on := 2, ground := Go.Ground.phase }, { on := 3, ground := Go.Ground.phase }, { on := 4, ground := Go.Ground.phase }, { on := 5, ground := Go.Ground.phase }, { on := 6, ground := Go.Ground.phase }, { on := 7, ground := Go.Ground.phase }], guard := none }
def on10 : Oper := { dst := none, op := Go.Op.store 41 (Go.Operand.tmp 60) (Go.Operand.tmp 58), type := 0, pos := "ref.go:278", after := #[{ on := 9, ground := Go.Ground.data }, { on := 7, ground := Go.Ground.data }, { on := 7, ground := Go.Ground.chain }, { on := 0, ground := Go.Ground.phase }, { on := 1, ground := Go.Ground.phase }, { on := 2, ground := Go.Ground.phase }, { on := 3, ground := Go.Ground.phase }, { on := 4, ground := Go.Ground.phase }, { on := 5, ground := Go.Ground.phase }, { on := 6, ground := Go.Ground.phase }, { on := 7, ground := Go.Ground.phase }], guard := none }

def OnT (W : World) (q : Nat) (s : Ds) (fv ov : Value) (ss : List Value) (j g n cap : Nat) (v : Value) (w' : World) : Prop := ∃ a5 n5 c5, v = .slice a5 n5 c5 ∧ w'.cell? ⟨q, 0, none⟩ = some (.slice (some ⟨g, 0, none⟩) n cap) ∧ (∃ u, w'.cell? ⟨g, j * 3 + 2, none⟩ = some u) ∧ w'.frozen? ⟨g, j * 3 + 2, none⟩ = false ∧ ∃ ss', Rv (w'.setCell ⟨g, j * 3 + 2, none⟩ (.slice a5 n5 c5)) q (setO s (j + 1)) fv ov ss' ∧ Kf (Rm q fv ov) W (w'.setCell ⟨g, j * 3 + 2, none⟩ (.slice a5 n5 c5)) ∧ ∀ k ∈ Rm q fv ov ++ Rr ss', k ∈ Rm q fv ov ++ Rr ss ∨ W.heap.size ≤ k
/-- one file settled -/
theorem on_step {W : World} {q : Nat} {s : Ds} {fv ov : Value} {ss : List Value} {j : Nat} (h : Rv W q (setO s j) fv ov ss) (hok : Dok s) (hqu : usedN s ≤ s.quota) (hj : j < s.files.length) {g n cap : Nat} (hv : fv = .slice (some ⟨g, 0, none⟩) n cap) :
    Calls Tryz.prog 60 #[.pointer (some ⟨q, 0, none⟩), .int .i64 (j : Int)] W fun e w' => ∃ v, e = .returned v ∧ OnT W q s fv ov ss j g n cap v w' := by
  have hj2 : j < (setO s j).files.length := by rw [set_len (Nat.le_of_lt hj)]; exact hj
  refine (rpages_any W q (setO s j) fv ov ss h (by rw [set_used]; exact hqu) j hj2).mono ?_
  rintro e w' ⟨v, rfl, ht, hB, hown⟩
  obtain ⟨a5, c5, hv5⟩ := row_shape ht
  refine ⟨v, rfl, a5, _, c5, hv5, ?_⟩
  rw [← hv5]
  obtain ⟨i0, k0, hb, _⟩ := h.blk
  have hb' := (hB.block q (lt_of_block hb)).trans hb
  have hgm : g ∈ ob fv := mem_ob.2 (by rw [hv]; rfl)
  have hfil := h.fil
  rw [hv] at hfil
  rcases hfil.2 with ⟨_, h2⟩ | ⟨g', cap', cur, h1, h2, h3, h4, h5, h6, h7⟩
  · omega
  · cases h1
    have h3' := (hB.block g (lt_of_block h3)).trans h3
    obtain ⟨m1, m2, m3⟩ := h.settle hj2 hv hB ht hown (s' := setO s (j + 1)) (by
      show setO s (j + 1) = { setO s j with files := (setO s j).files.set j { (setO s j).files[j] with settled := pagesOf (setO s j) (setO s j).files[j] } }
      rw [set_at hj]
      show ({ s with files := (setO s (j + 1)).files } : Ds) = { s with files := (setO s j).files.set j (settle s s.files[j]) }
      rw [set_next hj]) (set_ok hok _)
    refine ⟨by rw [← hv]; exact (cell_of_heap hb' 0).trans rfl, ?_, frozen_of_heap h3' _, _, m1, m2, m3⟩
    have hlt : j * 3 + 2 < cur.size := by
      have e1 : cur.size = cap * 3 := h6
      have e2 : (setO s j).files.length ≤ cap := h4
      rw [set_len (Nat.le_of_lt hj)] at e2
      omega
    exact ⟨cur[j * 3 + 2], by rw [cell_of_heap h3']; exact Array.getElem?_eq_getElem hlt⟩
set_option maxRecDepth 100000 in
set_option maxHeartbeats 8000000 in
theorem ron_any (w : World) (q : Nat) (s : Ds) (fv ov : Value) (ss : List Value) (h : Rv w q s fv ov ss) (hqu : usedN s ≤ s.quota) :
    Calls Tryz.prog 36 #[.pointer (some ⟨q, 0, none⟩)] w fun e w' => e = .returned (.tuple #[]) ∧ Rleft w q fv ov ss (onD s) w' := by
  obtain ⟨i0, k, hb, hik, hi2⟩ := h.blk
  have c8 : w.cell? ⟨q, 8, none⟩ = some (.bool s.off) := (cell_of_heap hb 8).trans rfl
  cases ho : s.off with
  | false =>
    rw [ho] at c8
    have HST : Hid (Rleft w q fv ov ss (onD s) w) := hid (by
      have : onD s = s := by unfold onD; rw [if_pos ho]
      rw [this]
      exact Rleft.stay h (Below.refl _ _))
    clear h hb hik hi2 hqu
    go_enter Tryz.func36, Tryz.ntmps36
    go_wp2_with fail
    refine bodyPost_ret (results_none rfl _ _ _) rfl ?_
    exact ⟨rfl, HST.out⟩
  | true =>
    rw [ho] at c8
    have hset := h.off ho
    have hk : k = s.keep := (hik hset).2
    have hk64 := hi2.2
    obtain ⟨n, hn⟩ : ∃ n, n = s.files.length := ⟨_, rfl⟩
    obtain ⟨m, hm⟩ : ∃ m, m = s.opn.length := ⟨_, rfl⟩
    have hopn : s.opn.length ≤ 1000000 := by have := opn_len h.ok; have := h.small.1; omega
    have hfew := h.ok.few
    obtain ⟨ao1, cap1, hov⟩ := row_shape h.opn
    obtain ⟨aof, capf, hfv⟩ := row_shape h.fil
    rw [← hm] at hov
    rw [← hn] at hfv
    have HCC : Hid (∀ W, Below w.heap.size w W → W.cell? ⟨q, 1, none⟩ = some (.slice ao1 m cap1) ∧ W.cell? ⟨q, 7, none⟩ = some (.int .u64 (k : Int)) ∧ W.frozen? ⟨q, 1, none⟩ = false) := hid (fun W hB => by
      have hbq := (hB.block q (lt_of_block hb)).trans hb
      exact ⟨by rw [← hov]; exact (cell_of_heap hbq 1).trans rfl, (cell_of_heap hbq 7).trans rfl, frozen_of_heap hbq 1⟩)
    have HH := hid h
    have HOV := hid hov
    have HFV := hid hfv
    have HM := hid hm
    have HN := hid hn
    have HK := hid hk
    have HK64 := hid hk64
    have HQU := hid hqu
    have HO := hid ho
    have HMB : Hid (m ≤ 1000000) := hid (by omega)
    have HNB : Hid (n ≤ 256) := hid (by omega)
    have hmb : (m : Int) ≤ 1000000 := by omega
    have hnb : (n : Int) ≤ 256 := by omega
    have c1 := (HCC.out w (Below.refl _ _)).1
    clear h hb hik hi2 hqu hset hk hk64 hopn hfew hov hfv hn hm ho
    go_enter Tryz.func36, Tryz.ntmps36
    go_wp2_with fail
    go_loopg [2, 3] m (fun gg vl vk wr => ∃ (j : Nat) (v : Value), gg = m - j ∧ j ≤ m ∧ vl = v ∧ vk = .int .i64 (j : Int) ∧ wr.ownsRow w.heap.size 95 3 v (stay k 0 (s.opn.take j)).length (ocs (stay k 0 (s.opn.take j))) ∧ Below w.heap.size w wr)
    case atStart => exact ⟨0, _, rfl, Nat.zero_le _, rfl, rfl, World.ownsRow_nil _ _ _ _, Below.refl _ _⟩
    case round =>
      obtain ⟨j, v, rfl, hj, hvl, rfl, hro, hbel⟩ := hrel
      obtain ⟨e1, e7, f1⟩ := HCC.out wr hbel
      clear c1 c8
      obtain ⟨ao3, cap3, hv3⟩ := row_shape2 hro
      by_cases hjl : j < m
      · have hjs : j < s.opn.length := by have := HM.out; omega
        have hrw : wr.ownsRow 0 95 3 ov s.opn.length (s.opn.flatMap oc) := ownsRow_same HH.out.opn (fun k hk => hbel.block k (HH.out.opn.lt k hk).2)
        obtain ⟨g2, cap4, hv4, _, hcell⟩ := row_cells oc_len hrw (by omega)
        have ha : ao1 = some ⟨g2, 0, none⟩ := by
          have h1 := HOV.out
          rw [hv4] at h1
          cases h1
          rfl
        subst ha
        obtain ⟨x, hx⟩ : ∃ x, x = s.opn[j]'hjs := ⟨_, rfl⟩
        have o0 : wr.cell? ⟨g2, j * 3, none⟩ = some (.int .i64 (x.no : Int)) := by have := hcell j hjs 0 (by omega); rw [Nat.add_zero] at this; rw [this, hx]; rfl
        have o1 : wr.cell? ⟨g2, j * 3 + 1, none⟩ = some (.int .i64 (x.at' : Int)) := by rw [hcell j hjs 1 (by omega), hx]; rfl
        have o2 : wr.cell? ⟨g2, j * 3 + 2, none⟩ = some (St x.pg) := by rw [hcell j hjs 2 (by omega), hx]; rfl
        have htk : stay k 0 (s.opn.take (j + 1)) = stay k 0 (s.opn.take j) ++ (if bitK k j = true then [x] else []) := by
          rw [List.take_add_one, List.getElem?_eq_getElem hjs, ← hx]
          show stay k 0 (s.opn.take j ++ [x]) = _
          rw [stay_snoc, Nat.zero_add, List.length_take, Nat.min_eq_left (by omega)]
        have hll : (stay k 0 (s.opn.take j)).length ≤ 1000000 := by
          have h1 := (stay_sub k 0 (s.opn.take j)).length_le
          rw [List.length_take] at h1
          have := HMB.out
          omega
        have hjw : IntKind.i64.wrap ((j : Int) + 1) = ((j + 1 : Nat) : Int) := by rw [IntKind.wrap_i64]; have := HMB.out; omega
        have hj0 : (0 : Int) ≤ (j : Int) := Int.natCast_nonneg _
        have hj1 : (j : Int) < (m : Int) := by omega
        have HJ := hid hjl
        have hbit := bit_is k j HK64.out
        by_cases e : bitK k j = true
        · rw [if_pos e] at htk
          rw [e] at hbit
          obtain ⟨v5, w5, hrun, hr5, hg5⟩ := open_add hro x hll hbel.size
          obtain ⟨ao5, cap5, hv5⟩ := row_shape2 hr5
          have HRN := hid hrun
          have HR : Hid (w5.ownsRow w.heap.size 95 3 v5 (stay k 0 (s.opn.take (j + 1))).length (ocs (stay k 0 (s.opn.take (j + 1))))) := hid (by rw [htk]; exact hr5)
          have HB : Hid (Below w.heap.size w w5) := hid ⟨hg5.os.trans hbel.os, hg5.tape.trans hbel.tape, hg5.output.trans hbel.output, Nat.le_trans hbel.size hg5.size, fun k hk => (hg5.block k (Nat.lt_of_lt_of_le hk hbel.size) (fun e => by have := (own_ge hro e.symm).1; omega)).trans (hbel.block k hk)⟩
          clear hro hbel hcell hrw hv4 hx hjs hj hjl htk hll hrun hr5 hg5 e f1
          generalize (x.no : Int) = xn at *
          generalize x.at' = xa at *
          generalize x.pg = xp at *
          generalize (stay k 0 (s.opn.take j) ++ [x]).length = n5 at *
          generalize (stay k 0 (s.opn.take j)).length = n3 at *
          subst hv3
          subst hvl
          subst hv5
          go_wp2_with (first | (at_builtin; refine wpList_append_run rfl (.tmp 28) (.tmp 36) 58 rfl (.slice ao3 n3 cap3) (.slice (some ⟨wr.heap.size, 0, none⟩) 1 1) (.slice ao5 n5 cap5) w5 rfl rfl HRN.out ?_) | fail)
          go_roundg (m - (j + 1))
          case measure => have := HJ.out; omega
          case rel => exact ⟨j + 1, _, rfl, HJ.out, rfl, rfl, HR.out, HB.out⟩
        · have e' : bitK k j = false := by simpa using e
          rw [if_neg e, List.append_nil] at htk
          rw [e'] at hbit
          have HR := hid hro
          have HB := hid hbel
          have HT := hid htk
          clear hro hbel hcell hrw hv4 hx hjs hj hjl htk hll o0 o1 o2 e e' f1
          generalize (stay k 0 (s.opn.take j)).length = n3 at hv3
          subst hv3
          subst hvl
          go_wp2_with fail
          go_roundg (m - (j + 1))
          case measure => have := HJ.out; omega
          case rel => exact ⟨j + 1, _, rfl, HJ.out, rfl, rfl, by rw [HT.out]; exact HR.out, HB.out⟩
      · have hje : j = m := by omega
        subst hje
        have hro2 : wr.ownsRow w.heap.size 95 3 v (cutO s).opn.length (ocs (cutO s).opn) := by
          rw [HM.out, List.take_length, HK.out] at hro
          exact hro
        obtain ⟨R1, K1, F1⟩ := HH.out.opened hbel hro2 (s' := cutO s) rfl (cut_ok HH.out.ok)
        have hjn : ¬ (j : Int) < (j : Int) := by omega
        obtain ⟨nl, hnl⟩ : ∃ nl, nl = (stay k 0 (s.opn.take j)).length := ⟨_, rfl⟩
        rw [← hnl] at hv3
        have HV3 := hid hv3
        have HVN : Hid (∀ g ∈ Rm q fv v, g ∈ Rm q fv ov ∨ w.heap.size ≤ g) := hid (fun g hg => by
          rcases List.mem_cons.1 hg with h2 | h2
          · rw [h2]; exact .inl List.mem_cons_self
          · rcases List.mem_append.1 h2 with h3 | h3
            · exact .inl (List.mem_cons_of_mem _ (List.mem_append_left _ h3))
            · exact .inr (own_ge hro (mem_ob.1 h3)).1)
        obtain ⟨w1, hw1⟩ : ∃ w1, w1 = wr.setCell ⟨q, 1, none⟩ v := ⟨_, rfl⟩
        rw [← hw1] at R1 K1
        have d0 : w1.cell? ⟨q, 0, none⟩ = some (.slice aof n capf) := by
          obtain ⟨i1, k1, hb1, _⟩ := R1.blk
          rw [← HFV.out]
          exact (cell_of_heap hb1 0).trans rfl
        have HR1 := hid R1
        have HK1 := hid K1
        have HF1 := hid F1
        clear hro hro2 hbel hj hjl hnl R1 K1 F1 e7
        subst hv3
        subst hvl
        go_wp2_with fail
        rw [← hw1]
        clear hw1
        go_loopg [4] n (fun gg vi W => ∃ (i : Nat) (ss' : List Value), gg = n - i ∧ i ≤ n ∧ vi = .int .i64 (i : Int) ∧ Rv W q (setO (cutO s) i) fv (.slice ao3 nl cap3) ss' ∧ Kf (Rm q fv ov) w W ∧ ∀ g ∈ Rm q fv (.slice ao3 nl cap3) ++ Rr ss', g ∈ Rm q fv ov ++ Rr ss ∨ w.heap.size ≤ g)
        case atStart => exact ⟨0, ss, rfl, Nat.zero_le _, rfl, HR1.out, HK1.out, HF1.out⟩
        case round =>
          clear d0 e1 f1 HR1 HK1 HF1
          obtain ⟨i, ss', rfl, hi, rfl, hR, hKf, hF⟩ := hrel
          by_cases hil : i < n
          · have his : i < (cutO s).files.length := by have := HN.out; exact (show i < s.files.length by omega)
            have hl2 : (setO (cutO s) i).files.length = n := (set_len (Nat.le_of_lt his)).trans HN.out.symm
            obtain ⟨i1, k1, hb1, _⟩ := hR.blk
            have hfv := HFV.out
            obtain ⟨g, hg⟩ : ∃ g, aof = some ⟨g, 0, none⟩ := by
              have hfil := hR.fil
              rw [hfv] at hfil
              rcases hfil.2 with ⟨_, h2⟩ | ⟨g', cap', cur, h1, _⟩
              · omega
              · cases h1
                exact ⟨g', rfl⟩
            subst hg
            have d0 : wr.cell? ⟨q, 0, none⟩ = some (.slice (some ⟨g, 0, none⟩) n capf) := by rw [← hfv]; exact (cell_of_heap hb1 0).trans rfl
            have hs0 : wr.drew.cell? ⟨q, 0, none⟩ = some (.slice (some ⟨g, 0, none⟩) n capf) := d0
            have HPG := hid (on_step (W := wr.drew) (s := cutO s) (j := i) (hR.same (fun _ _ => rfl)) (cut_ok HH.out.ok) (Nat.le_trans (cut_used s) HQU.out) his hfv)
            have HKF := hid hKf
            have HF := hid hF
            have HR := hid hR
            have hiw : IntKind.i64.wrap ((i : Int) + 1) = ((i + 1 : Nat) : Int) := by rw [IntKind.wrap_i64]; have := HNB.out; omega
            have hi0 : (0 : Int) ≤ (i : Int) := Int.natCast_nonneg _
            have hi1 : (i : Int) < (n : Int) := by omega
            have HIL := hid hil
            clear his hl2 hb1 hfv hR hKf hF hi hil
            go_wp2_with fail
            refine region_z (fun W => W.cell? ⟨q, 0, none⟩ = some (.slice (some ⟨g, 0, none⟩) n capf)) 10 (by kernel_rfl) ?_
            refine z_take (i := 0) (oi := on0) (v := .pointer (some ⟨q, 0, none⟩)) rfl (by kernel_rfl) (by kernel_rfl) (by kernel_rfl) (fun _ _ _ h => h) (by kernel_rfl) (by decide) (y_all rfl (fun _ => rfl)) hs0 ?_
            refine z_take (i := 4) (oi := on4) (v := .int .i64 (i : Int)) rfl (by kernel_rfl) (by kernel_rfl) (by kernel_rfl) (fun _ _ _ h => h) (by kernel_rfl) (by decide) (y_all rfl (fun _ => rfl)) hs0 ?_
            refine z_take (i := 5) (oi := on5) (v := .pointer (some ⟨q, 0, none⟩)) rfl (by kernel_rfl) (by kernel_rfl) (by kernel_rfl) (fun _ _ _ h => h) (by kernel_rfl) (by decide) (y_all rfl (fun _ => rfl)) hs0 ?_
            refine z_take (i := 6) (oi := on6) (v := .int .i64 (i : Int)) rfl (by kernel_rfl) (by kernel_rfl) (by kernel_rfl) (fun _ _ _ h => h) (by kernel_rfl) (by decide) (y_all rfl (fun _ => rfl)) hs0 ?_
            simp only [Act.put, on0, on4, on5, on6, List.setIfInBounds_toArray, List.set_cons_zero, List.set_cons_succ]
            refine z_take (i := 1) (oi := on1) (v := .pointer (some ⟨q, 0, none⟩)) rfl (by kernel_rfl) (by kernel_rfl) (by kernel_rfl) (fun _ _ _ h => h) (by kernel_rfl) (by decide) (y_all rfl (fun _ => rfl)) hs0 ?_
            simp only [Act.put, on1, List.setIfInBounds_toArray, List.set_cons_zero, List.set_cons_succ]
            refine z_take (i := 2) (oi := on2) (v := .pointer (some ⟨q, 0, none⟩)) rfl (by kernel_rfl) (by kernel_rfl) (by kernel_rfl) (fun _ _ _ h => h) (by kernel_rfl) (by decide) (y_all rfl (fun _ => by simp only [on2]; go_simp)) hs0 ?_
            simp only [Act.put, on2, List.setIfInBounds_toArray, List.set_cons_zero, List.set_cons_succ]
            refine z_take (i := 3) (oi := on3) (v := .slice (some ⟨g, 0, none⟩) n capf) rfl (by kernel_rfl) (by kernel_rfl) (by kernel_rfl) (fun _ _ _ h => h) (by kernel_rfl) (by decide) (y_load rfl 57 (.tmp 53) rfl q 0 rfl (fun w hw => load56 hw)) hs0 ?_
            simp only [Act.put, on3, List.setIfInBounds_toArray, List.set_cons_zero, List.set_cons_succ]
            refine z_all (rs := [7]) (by kernel_rfl) (by simp) (all1 ?_)
            refine op_call (o := on7) (f := 60) (args := #[.pointer (some ⟨q, 0, none⟩), .int .i64 (i : Int)]) (R := OnT wr.drew q (cutO s) fv (.slice ao3 nl cap3) ss' i g n capf) rfl rfl (by simp only [on7]; go_simp) HPG.out ?_
            rintro v5 w5 ⟨a5, n5, c5, rfl, hs1, ⟨u5, hs2⟩, hfz, ss5, m1, m2, m3⟩
            have M1 := hid m1
            have M2 := hid m2
            have M3 := hid m3
            clear m1 m2 m3 hs0
            have hs0 := hs1
            refine ⟨fun _ => hs0, ?_⟩
            simp only [Act.put, on7, List.setIfInBounds_toArray, List.set_cons_zero, List.set_cons_succ]
            refine z_all (rs := [8]) (by kernel_rfl) (by simp) (all1 ?_)
            refine op_ok (o := on8) (v := .pointer (some ⟨g, i * 3, none⟩)) (w' := w5) rfl rfl (by simp only [on8]; go_simp) ?_
            refine ⟨fun _ => hs0, ?_⟩
            simp only [Act.put, on8, List.setIfInBounds_toArray, List.set_cons_zero, List.set_cons_succ]
            refine z_all (rs := [9]) (by kernel_rfl) (by simp) (all1 ?_)
            refine op_ok (o := on9) (v := .pointer (some ⟨g, i * 3 + 2, none⟩)) (w' := w5) rfl rfl (by simp only [on9]; go_simp) ?_
            refine ⟨fun _ => hs0, ?_⟩
            simp only [Act.put, on9, List.setIfInBounds_toArray, List.set_cons_zero, List.set_cons_succ]
            refine z_all (rs := [10]) (by kernel_rfl) (by simp) (all1 ?_)
            refine op_skip (o := on10) (w' := w5.setCell ⟨g, i * 3 + 2, none⟩ (.slice a5 n5 c5)) rfl rfl (by simp only [on10]; go_simp) ?_
            refine ⟨fun h => absurd rfl h, ?_⟩
            refine z_done (by kernel_rfl) ?_ _
            simp only [Act.put, on10]
            clear hs0 hs1 hs2 hfz
            go_wp2_with fail
            go_roundg (n - (i + 1))
            case measure => have := HIL.out; omega
            case rel =>
              refine ⟨i + 1, ss5, rfl, HIL.out, rfl, M1.out, HKF.out.trans (G := Rm q fv (.slice ao3 nl cap3)) ⟨M2.out.os, M2.out.tape, M2.out.output, M2.out.size, M2.out.blk⟩ HVN.out, fun k hk => ?_⟩
              rcases M3.out k hk with h1 | h1
              · exact HF.out k h1
              · exact .inr (Nat.le_trans HKF.out.size h1)
          · have hie : i = n := by omega
            subst hie
            obtain ⟨i1, k1, hb1, _⟩ := hR.blk
            have d0 : wr.cell? ⟨q, 0, none⟩ = some (.slice aof i capf) := by rw [← HFV.out]; exact (cell_of_heap hb1 0).trans rfl
            have d1 : wr.cell? ⟨q, 1, none⟩ = some (.slice ao3 nl cap3) := (cell_of_heap hb1 1).trans rfl
            have d8 : wr.cell? ⟨q, 8, none⟩ = some (.bool (setO (cutO s) i).off) := (cell_of_heap hb1 8).trans rfl
            have d5 : wr.cell? ⟨q, 5, none⟩ = some (.bool (setO (cutO s) i).set) := (cell_of_heap hb1 5).trans rfl
            have f1 := frozen_of_heap hb1 1
            have f8 := frozen_of_heap hb1 8
            have f5 := frozen_of_heap hb1 5
            obtain ⟨m1, m2⟩ := hR.fin (s' := onD s) (by rw [on_is HO.out, ← HN.out]) (on_ok HH.out.ok)
            have HL : Hid (Rleft w q fv ov ss (onD s) (((wr.setCell ⟨q, 1, none⟩ (.slice none 0 0)).setCell ⟨q, 8, none⟩ (.bool false)).setCell ⟨q, 5, none⟩ (.bool false))) := hid (by
              refine ⟨fv, .slice none 0 0, ss', m1, hKf.trans m2 HVN.out, fun k hk => hF k ?_⟩
              rcases List.mem_append.1 hk with h1 | h1
              · refine List.mem_append_left _ ?_
                rcases List.mem_cons.1 h1 with h2 | h2
                · rw [h2]; exact List.mem_cons_self
                · rcases List.mem_append.1 h2 with h3 | h3
                  · exact List.mem_cons_of_mem _ (List.mem_append_left _ h3)
                  · cases h3
              · exact List.mem_append_right _ h1)
            generalize (setO (cutO s) i).off = O8 at d8
            generalize (setO (cutO s) i).set = O5 at d5
            clear hR hKf hF hi hil hb1 m1 m2
            have hin : ¬ (i : Int) < (i : Int) := by omega
            go_wp2_with fail
            refine bodyPost_end (results_none rfl _ _ _) rfl ?_
            exact ⟨rfl, HL.out⟩
end Go.Proofs.YtojnembakhhgiaaGreat
