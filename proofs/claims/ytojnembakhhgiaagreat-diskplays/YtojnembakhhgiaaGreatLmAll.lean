import Derived.Test.YtojnembakhhgiaaGreatPwAll
import Derived.Test.YtojnembakhhgiaaGreatCwAll
import Derived.Test.YtojnembakhhgiaaGreatNaAll
/- What the law of keeping meets: rows of calls, bytes cut and put together. -/
namespace Go.Proofs.YtojnembakhhgiaaGreat
open Go.RowKit

theorem Tryz.size5 : (Tryz.prog.info? 5).map (·.size) = some 1 := by kernel_rfl
theorem slice_from (q : IntKind) (a : Option Addr) (n cap k : Nat) (h : k ≤ n) (W : World) : (Instr.sliceAt 47 (.slice a n cap) (some (.int q (k : Int))) none none).run Tryz.prog W = .ok (.slice (if cap = k then a else a.map (·.add k)) (n - k) (cap - k)) W := by
  obtain ⟨i, hi, hz⟩ := Option.map_eq_some_iff.1 Tryz.size5
  have h1 : (k : Int) ≤ (n : Int) := by omega
  simp [Instr.sliceAt, Instr.slice, Instr.sliceBounds, Instr.sliceBound, asIntOf, run_underlying Tryz.underlying47, sizeOf, typeInfo, hi, hz, go_sem]
  intro h'; omega
theorem slice_to (q : IntKind) (a : Option Addr) (n cap k : Nat) (h : k ≤ cap) (W : World) : (Instr.sliceAt 47 (.slice a n cap) none (some (.int q (k : Int))) none).run Tryz.prog W = .ok (.slice a k cap) W := by
  obtain ⟨i, hi, hz⟩ := Option.map_eq_some_iff.1 Tryz.size5
  have h1 : (k : Int) ≤ (cap : Int) := by omega
  have h0 : ∀ x : Addr, x.add 0 = x := fun x => by unfold Addr.add; split <;> simp_all
  simp [Instr.sliceAt, Instr.slice, Instr.sliceBounds, Instr.sliceBound, asIntOf, run_underlying Tryz.underlying47, sizeOf, typeInfo, hi, go_sem, h0]
  intro h'; omega
/-- bytes that came in, wherever they lie -/
def Bt (w : World) (ao : Option Addr) (cap : Nat) (b : Bs) : Prop := b.length ≤ cap ∧ (0 < b.length → ∃ g o, ao = some ⟨g, o, none⟩ ∧ w.rangeAt g o (bcs b))
theorem Bt.bo {w : World} {ao : Option Addr} {cap : Nat} {b : Bs} (h : Bt w ao cap b) {k : Nat} (hk : k ≤ b.length) : Bo w (.slice ao k cap) (b.take k) := by
  have hl : (b.take k).length = k := by rw [List.length_take]; omega
  refine ⟨ao, cap, by rw [hl], fun h0 => ?_⟩
  rw [hl] at h0
  obtain ⟨g, o, e, hr⟩ := h.2 (by omega)
  refine ⟨g, o, e, fun j u hu => hr j u ?_⟩
  have hj : j < k := by have := (List.getElem?_eq_some_iff.1 hu).1; rw [List.length_map, hl] at this; exact this
  rw [← hu]
  simp [bcs, hj]
theorem Bt.cut {ao : Option Addr} {cap : Nat} {b : Bs} {k : Nat} (hk : k ≤ b.length) : ∃ a1 c1, (∀ q W, (Instr.sliceAt 47 (.slice ao b.length cap) (some (.int q (k : Int))) none none).run Tryz.prog W = .ok (.slice a1 (b.drop k).length c1) W) ∧ ∀ w, Bt w ao cap b → Bt w a1 c1 (b.drop k) := by
  refine ⟨_, _, fun q W => by rw [List.length_drop]; exact slice_from q ao b.length cap k hk W, fun w h => ⟨by rw [List.length_drop]; have := h.1; omega, fun h0 => ?_⟩⟩
  rw [List.length_drop] at h0
  obtain ⟨g, o, e, hr⟩ := h.2 (by omega)
  have hc : cap ≠ k := by have := h.1; omega
  rw [if_neg hc, e]
  refine ⟨g, o + k, by simp [Addr.add_mid], fun j u hu => ?_⟩
  have := hr (k + j) u (by
    rw [← hu]
    simp [bcs, List.getElem?_drop])
  rw [Nat.add_assoc]
  exact this
theorem Bt.low {w w' : World} {ao : Option Addr} {cap : Nat} {b : Bs} (h : Bt w ao cap b) (hB : Below w.heap.size w w') : Bt w' ao cap b := by
  refine ⟨h.1, fun h0 => ?_⟩
  obtain ⟨g, o, e, hr⟩ := h.2 h0
  refine ⟨g, o, e, fun j u hu => ?_⟩
  have := hr j u hu
  rw [← this]
  exact World.cell?_of_block (hB.block g (World.block_lt_of_cell? w ⟨g, o + j, none⟩ this))
/-- a row of calls lies there -/
def Os (w : World) (ao : Option Addr) (l : List Ox) : Prop := 0 < l.length → ∃ g o, ao = some ⟨g, o, none⟩ ∧ ∀ k (hk : k < l.length) j u, (xcs l[k])[j]? = some u → w.cell? ⟨g, o + k * 7 + j, none⟩ = some u
theorem Os.low {w w' : World} {ao : Option Addr} {l : List Ox} (h : Os w ao l) (hB : Below w.heap.size w w') : Os w' ao l := fun h0 => by
  obtain ⟨g, o, e, hr⟩ := h h0
  refine ⟨g, o, e, fun k hk j u hu => ?_⟩
  have := hr k hk j u hu
  rw [← this]
  exact World.cell?_of_block (hB.block g (World.block_lt_of_cell? w ⟨g, o + k * 7 + j, none⟩ this))
theorem pr_new (w w1 w2 : World) (x : Int) (h1 : Dv w1 w.heap.size (newD x) none []) (hb1 : Below w.heap.size w w1) (h2 : Rv w2 w1.heap.size (newD x) (.slice none 0 0) (.slice none 0 0) []) (hb2 : Below w1.heap.size w1 w2) : Pr (fun _ => False) (fun g => g < w.heap.size) w2 w.heap.size w1.heap.size (newD x) (newD x) := by
  have hd := h1.lt (g := w.heap.size) (by simp [Fp])
  refine ⟨⟨none, [], _, _, [], h1.low hb2, h2, ⟨fun g hg hm => ?_, fun g hg => hg.elim⟩, fun g hg => ⟨?_, fun hm => ?_, fun hm => ?_⟩⟩, Nat.zero_le _, Nat.zero_le _⟩
  · have e1 : g = w.heap.size := by simpa [Fp] using hg
    have e2 : g = w1.heap.size := by simpa [Rm, Rr, ob, Value.ownBlock] using hm
    omega
  · have := hb1.size
    have := hb2.size
    have : g < w.heap.size := hg
    omega
  · have e1 : g = w.heap.size := by simpa [Fp] using hm
    have : g < w.heap.size := hg
    omega
  · have e2 : g = w1.heap.size := by simpa [Rm, Rr, ob, Value.ownBlock] using hm
    have : g < w.heap.size := hg
    have := hb1.size
    omega
theorem info5z : (Tryz.prog.info? 5).map (fun i => (i.zero, i.size, i.bytes)) = some (some (.int .u8 0), 1, 1) := by kernel_rfl
/-- bytes put behind bytes -/
theorem bytes_add {W : World} {base : Nat} {v : Value} {l : Bs} (h : W.ownsRow base 5 1 v l.length (bcs l)) (g : Nat) (b : Bs) (hb : W.rangeAt g 0 (bcs b)) (c : Nat) (hl : l.length + b.length ≤ 1000000) (hbase : base ≤ W.heap.size) :
    ∃ v' w', (∀ ty, (Builtin.append_ #[47, 47] ty #[v, .slice (some ⟨g, 0, none⟩) b.length c]).run Tryz.prog W = .ok v' w') ∧ w'.ownsRow base 5 1 v' (l ++ b).length (bcs (l ++ b)) ∧ W.grownBy w' v.ownBlock ∧ (v'.ownBlock = v.ownBlock ∨ v'.ownBlock = some W.heap.size) := by
  obtain ⟨i, hi, hz⟩ := Option.map_eq_some_iff.1 info5z
  obtain ⟨h1, h2, h3⟩ : i.zero = some (.int .u8 0) ∧ i.size = 1 ∧ i.bytes = 1 := by
    have e1 := congrArg Prod.fst hz
    have e2 := congrArg (fun x => x.2.1) hz
    have e3 := congrArg (fun x => x.2.2) hz
    exact ⟨e1, e2, e3⟩
  obtain ⟨v', w', a1, a2, a3, _, a5⟩ := run_append_own_at (P := Tryz.prog) W base 47 47 5 i _ 1 1 Tryz.underlying47 hi h1 h2 h3 rfl (by decide) v l.length (bcs l) h ⟨g, 0, none⟩ b.length c (bcs b) (by simp [bcs]) (fun j u hu => by rw [Addr.add_mid]; exact hb j u hu) (bcs_one b) (by unfold maxLen; omega) (by omega) hbase
  refine ⟨v', w', fun ty => a1, ?_, a3, a5⟩
  have e : bcs (l ++ b) = bcs l ++ bcs b := by simp [bcs]
  rw [e, List.length_append]
  exact a2
theorem row_bo {W : World} {base : Nat} {v : Value} {l : Bs} (h : W.ownsRow base 5 1 v l.length (bcs l)) : Bo W v l := by
  rcases h.2 with ⟨h1, h2⟩ | ⟨g, cap, cur, h1, _, h3, h4, h5, h6, h7⟩
  · refine ⟨none, 0, by rw [h1, h2], fun h0 => absurd h2 (by omega)⟩
  · refine ⟨_, cap, h1, fun _ => ⟨g, 0, rfl, fun j u hu => ?_⟩⟩
    have hj : j < l.length := by have := (List.getElem?_eq_some_iff.1 hu).1; simpa [bcs] using this
    rw [Nat.zero_add, cell_of_heap h3, ← Array.getElem?_toList, ← hu, ← h7, List.getElem?_take, if_pos (by omega)]
/-- a row apart from both disks grows -/
theorem flat_take {P : List Bs} {i : Nat} (hi : i < P.length) : (P.take (i + 1)).flatten = (P.take i).flatten ++ P[i] := by
  rw [List.take_add_one, List.getElem?_eq_getElem hi, List.flatten_append]
  simp
theorem flat_le {P : List Bs} (hp : ∀ p ∈ P, p.length = 256) : ∀ i, (P.take i).flatten.length ≤ i * 256 := by
  induction P with
  | nil => intro i; simp
  | cons a P ih =>
    intro i
    cases i with
    | zero => simp
    | succ i =>
      rw [List.take_succ_cons, List.flatten_cons, List.length_append, hp a (by simp)]
      have := ih (fun p h => hp p (by simp [h])) i
      omega
theorem Way.pgs {s : Ds} {t : Bs} {P : List Bs} {left : Nat} (h : Way s t P left) (hok : Dok s) : ∀ p ∈ P, p.length = 256 := by
  obtain ⟨f, h1, _, h3⟩ := h.fil
  rw [← h3]
  exact pages_ok hok h1
theorem Way.less {s : Ds} {t : Bs} {P : List Bs} {a b : Nat} (h : Way s t P a) (hb : b ≤ a) : Way s t P b := ⟨h.off, h.set, Nat.le_trans hb h.inn, h.fil⟩
theorem bw_range {lo : Nat} {w : World} {v : Value} {b : Bs} (h : Bw lo w v b) (h0 : 0 < b.length) : ∃ g, v = .slice (some ⟨g, 0, none⟩) b.length b.length ∧ w.rangeAt g 0 (bcs b) := by
  rcases h.br with ⟨_, h2⟩ | ⟨g, h1, h2⟩
  · rw [h2] at h0; simp at h0
  · exact ⟨g, h1, h2⟩
end Go.Proofs.YtojnembakhhgiaaGreat

/- What a failure loses: its mathematics; three disks side by side. -/
namespace Go.Proofs.YtojnembakhhgiaaGreat
open Go.RowKit

theorem do_quota {s : Ds} {f : Ds → Ds} (hf : ∀ s', (f s').quota = s'.quota) : (doD s f).2.quota = s.quota := by
  unfold doD stepD
  split
  · rfl
  · rename_i s' e
    split at e
    · cases e
    · cases e
      exact hf _
theorem quota_play (s : Ds) (x : Ox) : (playD s x).quota = s.quota := by
  unfold playD
  split
  · unfold createD
    repeat' split
    all_goals first
      | rfl
      | exact do_quota (fun _ => rfl)
  · unfold writeD
    repeat' split
    all_goals first
      | rfl
      | exact do_quota (fun _ => rfl)
  · unfold syncD
    repeat' split
    all_goals first
      | rfl
      | exact do_quota (fun _ => rfl)
  · unfold renameD
    split
    · rfl
    · split
      · rfl
      · split
        · rfl
        · refine do_quota (fun s' => ?_)
          show (if x.name = x.to then s' else _).quota = _
          split
          · rfl
          · split <;> rfl
  · unfold removeD
    repeat' split
    all_goals first
      | rfl
      | exact do_quota (fun _ => rfl)
  · unfold failD
    split <;> rfl
  · unfold onD
    split <;> rfl
  · rfl
/-- every file's name was told in a call -/
def Org (s : Ds) (L : List Bs) : Prop := ∀ f ∈ s.files, f.name ∈ L
theorem Org.more {s : Ds} {L M : List Bs} (h : Org s L) (hs : ∀ x ∈ L, x ∈ M) : Org s M := fun f hf => hs _ (h f hf)
theorem Org.sub {s s' : Ds} {L : List Bs} (h : Org s L) (hs : ∀ f ∈ s'.files, f.name ∈ s.files.map Df.name) : Org s' L := fun f hf => by
  obtain ⟨g, hg, e⟩ := List.mem_map.1 (hs f hf)
  rw [← e]
  exact h g hg
theorem org_do {s : Ds} {f : Ds → Ds} {L : List Bs} (h : Org s L) (hf : ∀ s', s'.files = s.files → Org s' L → Org (f s') L) : Org (doD s f).2 L := by
  unfold doD stepD
  split
  · exact h
  · rename_i s' e
    split at e
    · cases e
    · cases e
      exact hf _ rfl h
theorem org_play {s : Ds} {L : List Bs} (h : Org s L) (x : Ox) : Org (playD s x) (L ++ [x.name, x.to]) := by
  have h' : Org s (L ++ [x.name, x.to]) := h.more (fun y hy => List.mem_append.2 (.inl hy))
  have hdrop : ∀ (s' : Ds) (no : Nat), Org s' (L ++ [x.name, x.to]) → Org (dropF s' no) (L ++ [x.name, x.to]) := fun s' no hs f hf => hs f (List.mem_filter.1 hf).1
  unfold playD
  split
  · unfold createD
    repeat' split
    all_goals first
      | exact h'
      | (refine org_do h' (fun s' _ hs f hf => ?_)
         rcases List.mem_append.1 (show f ∈ s'.files ++ [_] from hf) with hf | hf
         · exact hs f hf
         · simp at hf
           subst hf
           simp)
  · unfold writeD
    repeat' split
    all_goals first
      | exact h'
      | exact org_do h' (fun s' _ hs f hf => hs f hf)
  · unfold syncD
    split
    · exact h'
    · split
      · exact h'
      · rename_i g hg
        refine org_do h' (fun s' e hs f hf => ?_)
        rcases List.mem_append.1 (show f ∈ (dropF s' g.no).files ++ [_] from hf) with hf | hf
        · exact hs f (List.mem_filter.1 hf).1
        · simp at hf
          subst hf
          exact hs g (e ▸ (find_mem hg).1)
  · unfold renameD
    split
    · exact h'
    · split
      · exact h'
      · rename_i g hg
        split
        · exact h'
        · refine org_do h' (fun s' e hs => ?_)
          have hren : ∀ s2 : Ds, Org s2 (L ++ [x.name, x.to]) → Org (renamed s2 g.no x.to) (L ++ [x.name, x.to]) := fun s2 h2 f hf => by
            obtain ⟨k, hk, rfl⟩ := List.mem_map.1 (show f ∈ s2.files.map _ from hf)
            split
            · simp
            · exact h2 k hk
          show Org (if x.name = x.to then s' else _) _
          split
          · exact hs
          · split
            · exact hren _ hs
            · exact hren _ (hdrop _ _ hs)
  · unfold removeD
    repeat' split
    all_goals first
      | exact h'
      | exact org_do h' (fun s' _ hs => hdrop _ _ hs)
  · unfold failD
    split
    · exact h'
    · exact h'
  · unfold onD
    split
    · exact h'
    · intro f hf
      obtain ⟨k, hk, rfl⟩ := List.mem_map.1 hf
      exact h' k hk
  · exact h'
/-- the power failed with these bits kept, and is back -/
def lost (s : Ds) (k : Nat) : Ds := onD (offD (failD s 0 k))
theorem lost_is {s : Ds} (ho : s.off = false) (k : Nat) : lost s k = { s with files := s.files.map (fun f => { f with settled := layAll f.settled (ofNo (stay k 0 s.opn) f.no) }), opn := [], off := false, set := false, inn := 0, keep := 0 } := by
  unfold lost failD
  rw [if_neg (by rw [ho]; decide)]
  rfl
theorem bit_all (n : Nat) : bitK 18446744073709551615 n = true := by
  unfold bitK
  have h : n % 64 < 64 := Nat.mod_lt _ (by omega)
  generalize n % 64 = m at h
  revert m
  decide
theorem stay_full : ∀ (n : Nat) (ws : List Dw), stay 18446744073709551615 n ws = ws
  | _, [] => rfl
  | n, w :: ws => by rw [stay, if_pos (bit_all n), stay_full (n + 1) ws]
theorem lost_names {s : Ds} (ho : s.off = false) (k : Nat) : namesD (lost s k) = namesD s := by
  rw [lost_is ho]
  unfold namesD
  rw [if_neg (show ¬ false = true by decide), if_neg (by rw [ho]; decide)]
  show sorted ((s.files.map _).map Df.name) = _
  rw [List.map_map]
  rfl
theorem lost_used {s : Ds} (ho : s.off = false) (k : Nat) : usedN (lost s k) ≤ usedN s := by
  rw [lost_is ho]
  show ((s.files.map _).map _).sum ≤ _
  rw [List.map_map]
  refine sum_le (fun f _ => ?_)
  show (layAll (layAll f.settled (ofNo (stay k 0 s.opn) f.no)) []).length ≤ (layAll f.settled (ofNo s.opn f.no)).length
  exact layAll_len_sub (ofNo_sub (stay_sub k 0 s.opn) f.no) f.settled
theorem lost_used_all {s : Ds} (ho : s.off = false) : usedN (lost s 18446744073709551615) = usedN s := by
  rw [lost_is ho]
  show ((s.files.map _).map _).sum = _
  rw [List.map_map]
  refine sum_eq (fun f _ => ?_)
  show (layAll (layAll f.settled (ofNo (stay _ 0 s.opn) f.no)) []).length = (layAll f.settled (ofNo s.opn f.no)).length
  rw [stay_full]
  rfl
theorem lost_read {s : Ds} (ho : s.off = false) (t : Bs) (p : Int) : readDk (lost s 18446744073709551615) t p = readDk s t p := by
  have hf : ∀ l : List Df, (l.map (fun f => ({ f with settled := layAll f.settled (ofNo (stay 18446744073709551615 0 s.opn) f.no) } : Df))).find? (fun f => f.name == t) = (l.find? fun f => f.name == t).map (fun f => { f with settled := layAll f.settled (ofNo (stay 18446744073709551615 0 s.opn) f.no) }) := fun l => by
    rw [List.find?_map]
    rfl
  have hl := lost_is ho 18446744073709551615
  unfold readDk
  rw [if_neg (by rw [hl]; show ¬ false = true; decide), if_neg (by rw [ho]; decide)]
  have e : findF (lost s 18446744073709551615) t = (findF s t).map (fun f => { f with settled := layAll f.settled (ofNo (stay 18446744073709551615 0 s.opn) f.no) }) := by
    rw [hl]
    exact hf s.files
  rw [e]
  cases findF s t with
  | none => rfl
  | some f =>
    have e2 : pagesOf (lost s 18446744073709551615) { f with settled := layAll f.settled (ofNo (stay 18446744073709551615 0 s.opn) f.no) } = pagesOf s f := by
      rw [hl]
      show layAll (layAll f.settled (ofNo (stay _ 0 s.opn) f.no)) [] = layAll f.settled (ofNo s.opn f.no)
      rw [stay_full]
      rfl
    show (if p < 0 ∨ ((pagesOf (lost s 18446744073709551615) _).length : Int) ≤ p then _ else _) = _
    rw [e2]
/-- what a Create leaves where the next step fails -/
theorem create_fails {s : Ds} (ho : s.off = false) (k : Nat) (t : Bs) (hn : named t = true) : ((createD (failD s 0 k) t).2 = offD (failD s 0 k) ∧ findF s t = none) ∨ ((createD (failD s 0 k) t).2 = failD s 0 k ∧ (256 ≤ s.files.length ∨ (findF s t).isSome = true)) := by
  have hf : failD s 0 k = { s with set := true, inn := 0, keep := k } := by unfold failD; rw [if_neg (by rw [ho]; decide)]; rfl
  have hfi : findF (failD s 0 k) t = findF s t := by rw [hf]; rfl
  unfold createD
  rw [if_neg (by rw [hf]; show ¬ s.off = true; rw [ho]; decide), hn, if_neg (by decide), hfi]
  cases hq : findF s t with
  | some f => exact .inr ⟨rfl, .inr rfl⟩
  | none =>
    rw [if_neg (by decide)]
    have hlen : (failD s 0 k).files.length = s.files.length := by rw [hf]
    rw [hlen]
    by_cases h256 : 256 ≤ s.files.length
    · rw [if_pos h256]
      exact .inr ⟨rfl, .inl h256⟩
    · rw [if_neg h256]
      refine .inl ⟨?_, rfl⟩
      unfold doD stepD
      rw [hf]
      rfl
theorem names_len {s : Ds} (ho : s.off = false) : (namesD s).length = s.files.length := by
  unfold namesD
  rw [if_neg (by rw [ho]; decide), sorted_length, List.length_map]
theorem names_has {s : Ds} (ho : s.off = false) {t : Bs} (h : t ∈ namesD s) : ∃ f, findF s t = some f := by
  unfold namesD at h
  rw [if_neg (by rw [ho]; decide)] at h
  have h1 : t ∈ s.files.map Df.name := (List.mergeSort_perm _ _).mem_iff.1 h
  obtain ⟨f, hf, e⟩ := List.mem_map.1 h1
  cases hq : findF s t with
  | none => exact absurd e (find_none hq f hf)
  | some g => exact ⟨g, rfl⟩
/-- three disks apart from each other -/
structure Tri (K : Nat → Prop) (w : World) (d a b : Nat) (s sa sb : Ds) : Prop where
  ex : ∃ md vd ma va mb vb, Dv w d s md vd ∧ Dv w a sa ma va ∧ Dv w b sb mb vb ∧ (∀ g ∈ Fp d md vd, g ∉ Fp a ma va ∧ g ∉ Fp b mb vb) ∧ (∀ g ∈ Fp a ma va, g ∉ Fp b mb vb) ∧ ∀ g, K g → g < w.heap.size ∧ g ∉ Fp d md vd ∧ g ∉ Fp a ma va ∧ g ∉ Fp b mb vb
  q0 : usedN s ≤ s.quota
  q1 : usedN sa ≤ sa.quota
  q2 : usedN sb ≤ sb.quota
theorem Tri.swap {K : Nat → Prop} {w : World} {d a b : Nat} {s sa sb : Ds} (h : Tri K w d a b s sa sb) : Tri K w a d b sa s sb := by
  obtain ⟨md, vd, ma, va, mb, vb, h1, h2, h3, h4, h5, h6⟩ := h.ex
  exact ⟨⟨ma, va, md, vd, mb, vb, h2, h1, h3, fun g hg => ⟨fun hm => (h4 g hm).1 hg, h5 g hg⟩, fun g hg => (h4 g hg).2, fun g hg => ⟨(h6 g hg).1, (h6 g hg).2.2.1, (h6 g hg).2.1, (h6 g hg).2.2.2⟩⟩, h.q1, h.q0, h.q2⟩
theorem Tri.turn {K : Nat → Prop} {w : World} {d a b : Nat} {s sa sb : Ds} (h : Tri K w d a b s sa sb) : Tri K w b a d sb sa s := by
  obtain ⟨md, vd, ma, va, mb, vb, h1, h2, h3, h4, h5, h6⟩ := h.ex
  exact ⟨⟨mb, vb, ma, va, md, vd, h3, h2, h1, fun g hg => ⟨fun hm => h5 g hm hg, fun hm => (h4 g hm).2 hg⟩, fun _ hg hm => (h4 _ hm).1 hg, fun g hg => ⟨(h6 g hg).1, (h6 g hg).2.2.2, (h6 g hg).2.2.1, (h6 g hg).2.1⟩⟩, h.q2, h.q1, h.q0⟩
theorem Tri.dp {K : Nat → Prop} {w : World} {d a b : Nat} {s sa sb : Ds} (h : Tri K w d a b s sa sb) : Dp K w d s := by
  obtain ⟨md, vd, ma, va, mb, vb, h1, h2, h3, h4, h5, h6⟩ := h.ex
  exact ⟨⟨md, vd, h1, fun g hg => ⟨(h6 g hg).1, (h6 g hg).2.1⟩⟩, h.q0⟩
theorem Tri.grow {K : Nat → Prop} {w w' : World} {d a b : Nat} {s sa sb : Ds} (h : Tri K w d a b s sa sb) (hb : Below w.heap.size w w') : Tri (fun g => K g ∨ (w.heap.size ≤ g ∧ g < w'.heap.size)) w' d a b s sa sb := by
  obtain ⟨md, vd, ma, va, mb, vb, h1, h2, h3, h4, h5, h6⟩ := h.ex
  refine ⟨⟨md, vd, ma, va, mb, vb, h1.low hb, h2.low hb, h3.low hb, h4, h5, fun g hg => ?_⟩, h.q0, h.q1, h.q2⟩
  rcases hg with hg | hg
  · obtain ⟨x, y⟩ := h6 g hg
    exact ⟨Nat.lt_of_lt_of_le x hb.size, y⟩
  · exact ⟨hg.2, fun hm => by have := h1.lt hm; omega, fun hm => by have := h2.lt hm; omega, fun hm => by have := h3.lt hm; omega⟩
theorem Tri.less {K K' : Nat → Prop} {w : World} {d a b : Nat} {s sa sb : Ds} (h : Tri K w d a b s sa sb) (hs : ∀ g, K' g → K g) : Tri K' w d a b s sa sb := by
  obtain ⟨md, vd, ma, va, mb, vb, h1, h2, h3, h4, h5, h6⟩ := h.ex
  exact ⟨⟨md, vd, ma, va, mb, vb, h1, h2, h3, h4, h5, fun g hg => h6 g (hs g hg)⟩, h.q0, h.q1, h.q2⟩
theorem Tri.low {K : Nat → Prop} {w w' : World} {d a b : Nat} {s sa sb : Ds} (h : Tri K w d a b s sa sb) (hb : Below w.heap.size w w') : Tri K w' d a b s sa sb ∧ Kw K w w' := ⟨(h.grow hb).less (fun _ hg => .inl hg), below_kw hb (fun _ hg => h.dp.lt hg)⟩
/-- a call of the first disk -/
theorem Tri.call {K : Nat → Prop} {w : World} {d a b : Nat} {s s' sa sb : Ds} (h : Tri K w d a b s sa sb) {f : FuncId} {args : Array Value} {E : Ending} (hc : ∀ K' : Nat → Prop, Dp K' w d s → Calls Tryz.prog f args w fun e w' => e = E ∧ Dp K' w' d s' ∧ Kw K' w w') : Calls Tryz.prog f args w fun e w' => e = E ∧ Tri K w' d a b s' sa sb ∧ Kw K w w' := by
  obtain ⟨md, vd, ma, va, mb, vb, h1, h2, h3, h4, h5, h6⟩ := h.ex
  refine (hc (fun g => K g ∨ g ∈ Fp a ma va ∨ g ∈ Fp b mb vb) ⟨⟨md, vd, h1, fun g hg => ?_⟩, h.q0⟩).mono ?_
  · rcases hg with hg | hg | hg
    · exact ⟨(h6 g hg).1, (h6 g hg).2.1⟩
    · exact ⟨h2.lt hg, fun hm => (h4 g hm).1 hg⟩
    · exact ⟨h3.lt hg, fun hm => (h4 g hm).2 hg⟩
  · rintro e w' ⟨he, hd, hk⟩
    obtain ⟨md', vd', q1, q2⟩ := hd.ex
    exact ⟨he, ⟨⟨md', vd', ma, va, mb, vb, q1, h2.same (fun g hg => hk.blk g (.inr (.inl hg))), h3.same (fun g hg => hk.blk g (.inr (.inr hg))), fun g hg => ⟨fun hm => (q2 g (.inr (.inl hm))).2 hg, fun hm => (q2 g (.inr (.inr hm))).2 hg⟩, h5, fun g hg => ⟨(q2 g (.inl hg)).1, (q2 g (.inl hg)).2, (h6 g hg).2.2⟩⟩, hd.qs, h.q1, h.q2⟩, hk.less (fun g hg => .inl hg)⟩
/-- two copies of a disk -/
theorem dp_copy {K : Nat → Prop} {w : World} {d : Nat} {s : Ds} (h : Dp K w d s) : Calls Tryz.prog 8 #[.pointer (some ⟨d, 0, none⟩)] w fun e w' => ∃ a, e = .returned (.pointer (some ⟨a, 0, none⟩)) ∧ (∃ ma va, Dv w' a s ma va ∧ ∀ g ∈ Fp a ma va, w.heap.size ≤ g) ∧ Below w.heap.size w w' := by
  obtain ⟨mb, ms, h1, _⟩ := h.ex
  refine (copy_any w d s mb ms h1 h.qs).mono ?_
  rintro e w' ⟨d', mb', ms', he, q1, q2, q3⟩
  exact ⟨d', he, ⟨mb', ms', q1, q3⟩, q2⟩
theorem tri_of {K : Nat → Prop} {w w1 w2 : World} {d a b : Nat} {s : Ds} (h : Dp K w d s) (ha : ∃ ma va, Dv w1 a s ma va ∧ ∀ g ∈ Fp a ma va, w.heap.size ≤ g) (hB1 : Below w.heap.size w w1) (hb : ∃ mb vb, Dv w2 b s mb vb ∧ ∀ g ∈ Fp b mb vb, w1.heap.size ≤ g) (hB2 : Below w1.heap.size w1 w2) : Tri K w2 d a b s s s := by
  obtain ⟨md, vd, h1, h4⟩ := h.ex
  obtain ⟨ma, va, a1, a2⟩ := ha
  obtain ⟨mb, vb, b1, b2⟩ := hb
  have z1 := hB1.size
  have z2 := hB2.size
  refine ⟨⟨md, vd, ma, va, mb, vb, (h1.low hB1).low hB2, a1.low hB2, b1, fun g hg => ⟨fun hm => ?_, fun hm => ?_⟩, fun g hg hm => ?_, fun g hg => ⟨?_, (h4 g hg).2, fun hm => ?_, fun hm => ?_⟩⟩, h.qs, h.qs, h.qs⟩
  · have := h1.lt hg; have := a2 g hm; omega
  · have := h1.lt hg; have := b2 g hm; omega
  · have := a1.lt hg; have := b2 g hm; omega
  · have := (h4 g hg).1; omega
  · have := (h4 g hg).1; have := a2 g hm; omega
  · have := (h4 g hg).1; have := b2 g hm; omega
theorem Pr.dp {J K : Nat → Prop} {w : World} {d q : Nat} {s t : Ds} (h : Pr J K w d q s t) : Dp K w d s := by
  obtain ⟨mb, ms, fv, ov, ss, h1, h2, h3, h4⟩ := h.ex
  exact ⟨⟨mb, ms, h1, fun g hg => ⟨(h4 g hg).1, (h4 g hg).2.1⟩⟩, h.qs⟩
end Go.Proofs.YtojnembakhhgiaaGreat

/- What a disk tells: its names, its pages, whether it is off. -/
namespace Go.Proofs.YtojnembakhhgiaaGreat
open Go.RowKit

theorem dp_names {K : Nat → Prop} {w : World} {d : Nat} {s : Ds} (h : Dp K w d s) : Calls Tryz.prog 17 #[.pointer (some ⟨d, 0, none⟩)] w fun e w' => ∃ a c, e = .returned (.slice a (namesD s).length c) ∧ Tx w' (.slice a (namesD s).length c) (namesD s) ∧ Below w.heap.size w w' := by
  obtain ⟨mb, ms, h1, _⟩ := h.ex
  refine (names_any w d s mb ms h1).mono ?_
  rintro e w' ⟨v, he, hr, hB⟩
  obtain ⟨a, c, hv⟩ := row_shape2 hr
  rw [hv] at he hr
  exact ⟨a, c, he, ⟨hr.1, hr.2.imp id (fun ⟨g, cap, cur, e1, _, e3⟩ => ⟨g, cap, cur, e1, Nat.zero_le _, e3⟩)⟩, hB⟩
theorem dp_used {K : Nat → Prop} {w : World} {d : Nat} {s : Ds} (h : Dp K w d s) : Calls Tryz.prog 16 #[.pointer (some ⟨d, 0, none⟩)] w fun e w' => e = .returned (.int .i64 (usedN s : Int)) ∧ Below w.heap.size w w' := by
  obtain ⟨mb, ms, h1, _⟩ := h.ex
  exact used_any w d s mb ms h1 h.qs
theorem dp_off {K : Nat → Prop} {w : World} {d : Nat} {s : Ds} (h : Dp K w d s) : Calls Tryz.prog 12 #[.pointer (some ⟨d, 0, none⟩)] w fun e w' => e = .returned (.bool s.off) ∧ w' = w := by
  obtain ⟨mb, ms, h1, _⟩ := h.ex
  exact off_any w d s mb ms h1
end Go.Proofs.YtojnembakhhgiaaGreat
