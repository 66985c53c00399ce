import Derived.Test.YtfnnhekjeobicaaGreatDoorR3Cll
import Derived.Test.YtfnnhekjeobicaaGreatDoorMoreAll
/- DeduceCopies: two minds, each with the list of what it heard. -/
namespace Go.Proofs.YtfnnhekjeobicaaGreatDoor
open Go.RowKit Go.Maps Go.WideElems

/-- a mind stays where its blocks stay -/
theorem Mi.stay {U l : List Bs} {w w' : World} {p : Nat} {o : Option Nat} {N : NM} (h : Mi U l w p o N) (h1 : w'.heap[p]? = w.heap[p]?) (h2 : ∀ b, o = some b → w'.heap[b]? = w.heap[b]?) (h3 : G0 w') : Mi U l w' p o N := by
  refine ⟨⟨h1.trans h.rm.ptr, ?_⟩, h.ok, h.mind, h3, h.loc⟩
  have := h.rm.om
  cases o with
  | none => exact this
  | some b => exact Om.same this (h2 b rfl)
theorem Mi.olt {U l : List Bs} {w : World} {p : Nat} {o : Option Nat} {N : NM} (h : Mi U l w p o N) {b : Nat} (e : o = some b) : b < w.heap.size := by
  have := h.rm.om
  subst e
  exact Om.lt this
/-- one mind and its list, on the way from a world wS in which they were oS and vS -/
structure Lx (U : List Bs) (wS : World) (oS : Option Nat) (vS : Value) (B p : Nat) (X : List Bs) (v : Value) (wr : World) : Prop where
  mi : ∃ o N hl, Mi U hl wr p o N ∧ (∀ z, z ∈ hl ↔ z ∈ X) ∧ (o = oS ∨ ∃ b, o = some b ∧ wS.heap.size ≤ b) ∧ (∀ k, v.ownBlock = some k → k ≠ p ∧ some k ≠ o) ∧ hl.length ≤ X.length ∧ ∀ b, o = some b → B ≤ b
  row : wr.ownsRow B 29 1 v X.length (X.map St)
  own : ∀ k, v.ownBlock = some k → vS.ownBlock = some k ∨ wS.heap.size ≤ k
  os : wr.os = wS.os
  tape : wr.tape = wS.tape
  output : wr.output = wS.output
  size : wS.heap.size ≤ wr.heap.size
  block : ∀ k, k < wS.heap.size → k ≠ p → some k ≠ oS → vS.ownBlock ≠ some k → wr.heap[k]? = wS.heap[k]?
  low : B ≤ wS.heap.size
  plow : B ≤ p
theorem Lx.below {U : List Bs} {wS : World} {oS : Option Nat} {vS : Value} {B p : Nat} {X : List Bs} {v : Value} {wr w' : World} (h : Lx U wS oS vS B p X v wr) (hb : Below wr.heap.size wr w') : Lx U wS oS vS B p X v w' := by
  obtain ⟨o, N, hl, h1, h2⟩ := h.mi
  exact ⟨⟨o, N, hl, h1.below hb, h2⟩, own_stays h.row (fun i e => hb.block i (own_ge h.row e).2), h.own, hb.os.trans h.os, hb.tape.trans h.tape, hb.output.trans h.output, Nat.le_trans h.size hb.size, fun k a b c d => (hb.block k (Nat.lt_of_lt_of_le a h.size)).trans (h.block k a b c d), h.low, h.plow⟩
/-- a right term is heard: then it is put behind the list -/
theorem Lx.learn {U : List Bs} (hU : Uni U) {wS : World} {oS : Option Nat} {vS : Value} {B p : Nat} {X : List Bs} {v : Value} {wr : World} (h : Lx U wS oS vS B p X v wr) (hG : 1 < B) {t : Bs} (ht : t ∈ U) (hl : X.length < 1000) :
    Calls Tryz.prog 11 #[.pointer (some ⟨p, 0, none⟩), St t] wr fun e w' => e = .returned (.int .i64 0) ∧ (w'.ownsRow B 29 1 v X.length (X.map St) ∧ B ≤ w'.heap.size) ∧ Below B wr w' ∧
      ∀ v' w'', w''.ownsRow B 29 1 v' (X ++ [t]).length ((X ++ [t]).map St) → Gw w' w'' v v' → Lx U wS oS vS B p (X ++ [t]) v' w'' := by
  obtain ⟨o, N, hl2, h1, h2, h3, h4, h5, h6⟩ := h.mi
  refine (learn_mind hU h1 ht (by omega)).mono ?_
  rintro e w' ⟨rfl, o', N', hm, hlf, ho⟩
  have hrow : w'.ownsRow B 29 1 v X.length (X.map St) := own_stays h.row (fun k hk => hlf.block k (own_ge h.row hk).2 (h4 k hk).1 (h4 k hk).2)
  have hoS : ∀ k, k < wS.heap.size → some k ≠ oS → some k ≠ o := fun k hk hne e => by
    rcases h3 with e2 | ⟨b, e2, hb⟩
    · exact hne (e.trans e2)
    · rw [e2] at e; cases e; omega
  have hsz := h.size
  have hlow := h.low
  have hplow := h.plow
  have hls := hlf.size
  refine ⟨rfl, ⟨hrow, by omega⟩, ⟨hlf.os, hlf.tape, hlf.output, hlf.size, fun k hk => hlf.block k (by omega) (by omega) (fun e => by have := h6 k e.symm; omega)⟩, fun v' w'' hr hg => ?_⟩
  have hvp : v.ownBlock ≠ some p := fun e => (h4 p e).1 rfl
  have hvo : ∀ b, o' = some b → v.ownBlock ≠ some b := fun b e e2 => by
    rcases ho with ho | ⟨b', ho, hb'⟩
    · exact (h4 b e2).2 (by rw [← ho]; exact e.symm)
    · rw [ho] at e
      cases e
      have := (own_ge h.row e2).2
      omega
  have hg0 : G0 w'' := by
    obtain ⟨m, fr, h7⟩ := hm.g0
    exact ⟨m, fr, (hg.block 1 (lt_of_block h7) (fun e => by have := (own_ge h.row e).1; omega)).trans h7⟩
  refine ⟨⟨o', N', t :: hl2, hm.stay (hg.block p hm.rm.lt hvp) (fun b e => hg.block b (hm.olt e) (hvo b e)) hg0, fun z => ?_, ?_, fun k hk => ?_, by simp; omega, fun b e => ?_⟩, hr, fun k hk => ?_, hg.os.trans (hlf.os.trans h.os), hg.tape.trans (hlf.tape.trans h.tape), hg.output.trans (hlf.output.trans h.output), by have := hg.size; omega, fun k hk hkp hko hkv => ?_, h.low, h.plow⟩
  · rw [List.mem_cons, h2 z, List.mem_append, List.mem_singleton]
    exact Or.comm
  · rcases ho with ho | ⟨b', ho, hb'⟩
    · rw [ho]; exact h3
    · exact Or.inr ⟨b', ho, by omega⟩
  · rcases hg.own k hk with e | e
    · exact ⟨(h4 k e).1, fun e2 => hvo k e2.symm e⟩
    · refine ⟨by have := hm.rm.lt; omega, fun e2 => by have := hm.olt e2.symm; omega⟩
  · rcases ho with ho | ⟨b', ho, hb'⟩
    · exact h6 b (by rw [← ho]; exact e)
    · rw [ho] at e; cases e; omega
  · rcases hg.own k hk with e | e
    · exact h.own k e
    · exact Or.inr (by omega)
  · have hkv2 : v.ownBlock ≠ some k := fun e => by
      rcases h.own k e with e2 | e2
      · exact hkv e2
      · omega
    exact (hg.block k (by omega) hkv2).trans ((hlf.block k (by omega) hkp (hoS k hk hko)).trans (h.block k hk hkp hko hkv))
/-- at the start -/
theorem Lx.start {U : List Bs} {w : World} {o : Option Nat} {v : Value} {B p : Nat} {X hl : List Bs} {N : NM} (h : Mi U hl w p o N) (hs : ∀ z, z ∈ hl ↔ z ∈ X) (hl2 : hl.length ≤ X.length) (hr : w.ownsRow B 29 1 v X.length (X.map St)) (ha : ∀ k, v.ownBlock = some k → k ≠ p ∧ some k ≠ o) (hB : B ≤ w.heap.size) (hp : B ≤ p) (ho : ∀ b, o = some b → B ≤ b) : Lx U w o v B p X v w :=
  ⟨⟨o, N, hl, h, hs, Or.inl rfl, ha, hl2, ho⟩, hr, fun _ e => Or.inl e, rfl, rfl, rfl, Nat.le_refl _, fun _ _ _ _ _ => rfl, hB, hp⟩
/-- what stands apart from the one mind and its list stays -/
theorem Lx.other {U : List Bs} {wS : World} {oS : Option Nat} {vS : Value} {B p : Nat} {X : List Bs} {v : Value} {wr : World} (h : Lx U wS oS vS B p X v wr) {p2 : Nat} {o2 : Option Nat} {N2 : NM} {hl2 Y : List Bs} {v2 : Value} (hm : Mi U hl2 wS p2 o2 N2) (hr : wS.ownsRow B 29 1 v2 Y.length (Y.map St)) (hpp : p2 ≠ p) (hpo : some p2 ≠ oS) (hpv : vS.ownBlock ≠ some p2) (hop : ∀ b, o2 = some b → b ≠ p ∧ some b ≠ oS ∧ vS.ownBlock ≠ some b) (hvp : ∀ k, v2.ownBlock = some k → k ≠ p ∧ some k ≠ oS ∧ vS.ownBlock ≠ some k) :
    Mi U hl2 wr p2 o2 N2 ∧ wr.ownsRow B 29 1 v2 Y.length (Y.map St) := by
  obtain ⟨o, N, hl, h1, _⟩ := h.mi
  refine ⟨hm.stay (h.block p2 hm.rm.lt hpp hpo hpv) (fun b e => h.block b (hm.olt e) (hop b e).1 (hop b e).2.1 (hop b e).2.2) h1.g0, own_stays hr (fun k hk => h.block k (own_ge hr hk).2 (hvp k hk).1 (hvp k hk).2.1 (hvp k hk).2.2)⟩
end Go.Proofs.YtfnnhekjeobicaaGreatDoor

/- The law DeduceCopies. -/
namespace Go.Proofs.YtfnnhekjeobicaaGreatDoor
open Go.RowKit Go.Maps Go.WideElems

theorem own_base {w : World} {B C : Nat} {v : Value} {n : Nat} {xs : List Value} (h : w.ownsRow C 29 1 v n xs) (hB : B ≤ C) : w.ownsRow B 29 1 v n xs := by
  obtain ⟨h1, h2⟩ := h
  refine ⟨h1, ?_⟩
  rcases h2 with h2 | ⟨g, cap, cur, hv, h3, h4⟩
  · exact Or.inl h2
  · exact Or.inr ⟨g, cap, cur, hv, Nat.le_trans hB h3, h4⟩
theorem rights_take_lens (a b : List Bs) (i : Nat) (ha : lens a ≤ 700) (hb : lens b ≤ 700) : lens (rights a ++ rights (b.take i)) ≤ 100000 := by
  have h1 := lens_rights a
  have h2 := lens_rights (b.take i)
  have h3 : lens (b.take i) ≤ lens b := by
    have e : lens b = lens (b.take i) + lens (b.drop i) := by
      unfold lens
      rw [← List.sum_append, ← List.map_append, List.take_append_drop]
    omega
  unfold lens at *
  rw [List.map_append, List.sum_append]
  omega
theorem rights_right {l : List Bs} {x : Bs} (h : x ∈ rights l) : Tm.deep x ≠ 0 := by
  have := (List.mem_filter.1 h).2
  simpa using this
/-- one mind learns a row of terms: what a round does -/
theorem Lx.round {U : List Bs} (hU : Uni U) {wS : World} {oS : Option Nat} {vS : Value} {B p : Nat} {X : List Bs} {v : Value} {wr : World} (h : Lx U wS oS vS B p X v wr) (hG : 1 < B) {t : Bs} (ht : Tm.deep t ≠ 0 → t ∈ U) (hl : X.length < 1000) :
    Calls Tryz.prog 11 #[.pointer (some ⟨p, 0, none⟩), St t] wr fun e w' => (Tm.deep t = 0 ∧ e = .returned (.int .i64 10) ∧ Lx U wS oS vS B p X v w' ∧ Below B wr w') ∨
      (Tm.deep t ≠ 0 ∧ e = .returned (.int .i64 0) ∧ (w'.ownsRow B 29 1 v X.length (X.map St) ∧ B ≤ w'.heap.size) ∧ Below B wr w' ∧ ∀ v' w'', w''.ownsRow B 29 1 v' (X ++ [t]).length ((X ++ [t]).map St) → Gw w' w'' v v' → Lx U wS oS vS B p (X ++ [t]) v' w'') := by
  by_cases hd : Tm.deep t = 0
  · refine (learn_wrong wr p t hd).mono ?_
    rintro e w' ⟨rfl, hb⟩
    exact Or.inl ⟨hd, rfl, h.below hb, below_low hb (by have := h.low; have := h.size; omega)⟩
  · refine (h.learn hU hG (ht hd) hl).mono ?_
    rintro e w' ⟨rfl, h1, h2, h3⟩
    exact Or.inr ⟨hd, rfl, h1, h2, h3⟩
set_option maxRecDepth 100000 in
set_option maxHeartbeats 16000000 in
theorem cop_main (w : World) (hG : G0 w) (aa ab ac ak : Option Addr) (ca cb cc ck : Nat) (a b c ask : List Bs) (hka : Texts w (.slice aa a.length ca) a) (hkb : Texts w (.slice ab b.length cb) b) (hkc : Texts w (.slice ac c.length cc) c) (hkk : Texts w (.slice ak ask.length ck) ask) (hsa : smallB a = true) (hsb : smallB b = true) (hsc : smallB c = true) (hsk : smallB ask = true) (hla : ∀ i (h : i < a.length), a[i].length ≤ 140737488355328) (hlb : ∀ i (h : i < b.length), b[i].length ≤ 140737488355328) (hlc : ∀ i (h : i < c.length), c[i].length ≤ 140737488355328) (hlk : ∀ i (h : i < ask.length), ask[i].length ≤ 140737488355328) :
    Calls Tryz.prog 20 #[.slice aa a.length ca, .slice ab b.length cb, .slice ac c.length cc, .slice ak ask.length ck] w fun e w' => e = .returned (.bool true) ∧ Below w.heap.size w w' := by
  have HAS := hid (smallB_of hsa)
  have HBS := hid (smallB_of hsb)
  have HCS := hid (smallB_of hsc)
  have HKS := hid (smallB_of hsk)
  obtain ⟨U, hU, hUa, hUb, hUc⟩ := uni_three a b c HAS.out.2 HBS.out.2 HCS.out.2
  have HS1 := hid (small_any w aa ca a hka (by have := HAS.out.1; unfold maxLen; omega) hla)
  have HS2 := hid (small_any w ab cb b hkb (by have := HBS.out.1; unfold maxLen; omega) hlb)
  have HS3 := hid (small_any w ac cc c hkc (by have := HCS.out.1; unfold maxLen; omega) hlc)
  have HS4 := hid (small_any w ak ck ask hkk (by have := HKS.out.1; unfold maxLen; omega) hlk)
  rw [hsa] at HS1
  rw [hsb] at HS2
  rw [hsc] at HS3
  rw [hsk] at HS4
  have HMD := hid (mind_ml hU w hG aa ca a hka HAS.out.1 hUa)
  have HUN := hid hU
  have HUB := hid hUb
  have HUC := hid hUc
  have HG1 := hid hG.lt
  have HWK := hid (fun W (hb : Below w.heap.size w W) => works_any W (hG.below hb))
  have HBC : Hid (∀ i (h : i < b.length), ∃ g o, ab = some ⟨g, o, none⟩ ∧ ∀ W, Below w.heap.size w W → W.cell? ⟨g, o + i, none⟩ = some (St b[i])) := hid (fun i h => by
    obtain ⟨ao', cap', he, ht⟩ := hkb
    cases he
    obtain ⟨g, o, e, hg, hc⟩ := ht (fun e => by rw [e] at h; simp at h)
    exact ⟨g, o, e, fun W hb => by rw [← hc i h]; exact World.cell?_of_block (hb.block g hg)⟩)
  have HCC : Hid (∀ i (h : i < c.length), ∃ g o, ac = some ⟨g, o, none⟩ ∧ ∀ W, Below w.heap.size w W → W.cell? ⟨g, o + i, none⟩ = some (St c[i])) := hid (fun i h => by
    obtain ⟨ao', cap', he, ht⟩ := hkc
    cases he
    obtain ⟨g, o, e, hg, hc⟩ := ht (fun e => by rw [e] at h; simp at h)
    exact ⟨g, o, e, fun W hb => by rw [← hc i h]; exact World.cell?_of_block (hb.block g hg)⟩)
  have HKC : Hid (∀ i (h : i < ask.length), ∃ g o, ak = some ⟨g, o, none⟩ ∧ ∀ W, Below w.heap.size w W → W.cell? ⟨g, o + i, none⟩ = some (St ask[i])) := hid (fun i h => by
    obtain ⟨ao', cap', he, ht⟩ := hkk
    cases he
    obtain ⟨g, o, e, hg, hc⟩ := ht (fun e => by rw [e] at h; simp at h)
    exact ⟨g, o, e, fun W hb => by rw [← hc i h]; exact World.cell?_of_block (hb.block g hg)⟩)
  have HKL : Hid (∀ i (h : i < ask.length), ask[i].length ≤ 700) := hid (fun i h => by have h1 := lens_mem (List.getElem_mem h); have h2 := HKS.out.2; omega)
  have HRL : Hid ((rights a).length ≤ 40) := hid (Nat.le_trans (List.length_filter_le _ _) HAS.out.1)
  have HXS : Hid (lens (rights a ++ rights b) ≤ 100000 ∧ lens (rights a ++ rights c) ≤ 100000) := hid ⟨by have := rights_take_lens a b b.length HAS.out.2 HBS.out.2; rwa [List.take_length] at this, by have := rights_take_lens a c c.length HAS.out.2 HCS.out.2; rwa [List.take_length] at this⟩
  have HXR : Hid (∀ x ∈ rights a, Tm.deep x ≠ 0) := hid (fun x h => rights_right h)
  clear hU hUa hUb hUc hG hka hkb hkc hkk hsa hsb hsc hsk hla hlb hlc hlk
  obtain ⟨nb, hnb⟩ : ∃ n, n = b.length := ⟨_, rfl⟩
  obtain ⟨nc, hnc⟩ : ∃ n, n = c.length := ⟨_, rfl⟩
  obtain ⟨nk, hnk⟩ : ∃ n, n = ask.length := ⟨_, rfl⟩
  have HNB := hid hnb
  have HNC := hid hnc
  have HNK := hid hnk
  have hbb : nb ≤ 40 := by have := HBS.out.1; omega
  have hcb : nc ≤ 40 := by have := HCS.out.1; omega
  have hkb : nk ≤ 40 := by have := HKS.out.1; omega
  rw [← hnb] at HS2 ⊢
  rw [← hnc] at HS3 ⊢
  rw [← hnk] at HS4 ⊢
  clear hnb hnc hnk HAS HBS HCS HKS
  generalize rights a = X0 at HMD HRL HXS HXR
  have HBL : Hid (X0.length ≤ 40) := HRL
  go_enter Tryz.func20, Tryz.ntmps20
  go_wp2_with fail
  refine HS1.out.mono ?_
  rintro e w1 ⟨rfl, hw1⟩
  obtain rfl := hw1.symm
  go_wp2_with fail
  refine HS2.out.mono ?_
  rintro e w1 ⟨rfl, hw1⟩
  obtain rfl := hw1.symm
  go_wp2_with fail
  refine HS3.out.mono ?_
  rintro e w1 ⟨rfl, hw1⟩
  obtain rfl := hw1.symm
  go_wp2_with fail
  refine HS4.out.mono ?_
  rintro e w1 ⟨rfl, hw1⟩
  obtain rfl := hw1.symm
  clear HS1 HS2 HS3 HS4
  go_wp2_with fail
  refine HMD.out.mono ?_
  rintro e w2 ⟨v, rfl, hml⟩
  have HRX := hid (own_base (B := w.heap.size) hml.row (by omega))
  have HB2 := hid hml.bel
  obtain ⟨o, N, hmi, ho⟩ := hml.mi
  have HM2 := hid hmi
  have HO := hid ho
  have HNO := hid (own_not hmi.rm hml.row)
  clear hml hmi ho HMD
  obtain ⟨p, hp⟩ : ∃ p, p = w.heap.size := ⟨_, rfl⟩
  rw [← hp] at HM2 HNO ⊢
  have HPP := hid hp
  clear hp
  have HCP := hid (copy_any w2 p o N HM2.out.rm)
  go_wp2_with fail
  refine HCP.out.mono ?_
  rintro e w3 ⟨p2, rfl, hcp⟩
  obtain ⟨o2, hmi2, hlow2, ho2, hb3⟩ := HM2.out.copy hcp
  have HM3 := hid hmi2
  have HL2 := hid hlow2
  have HO2 := hid ho2
  have HB3 := hid hb3
  clear hcp hmi2 hlow2 ho2 hb3 HCP
  obtain ⟨av0, kv0, rfl⟩ := own_shape HRX.out
  have HRX3 := hid (own_stays HRX.out (fun i e => HB3.out.block i (own_ge HRX.out e).2))
  obtain ⟨ay, ky, w4, hrun, hown4, hb4⟩ := append_all w3 (.slice av0 X0.length kv0) X0 (own_texts HRX3.out) (by have := HRL.out; omega)
  have HRUN := hid hrun
  have HRY := hid hown4
  have HB4 := hid hb4
  clear hrun hown4 hb4
  have HBW4 : Hid (Below w.heap.size w w4) := hid (two_below HB2.out (two_below HB3.out HB4.out))
  have HLX0 : Hid (Lx U w4 o (.slice av0 X0.length kv0) w.heap.size p X0 (.slice av0 X0.length kv0) w4) := hid (Lx.start ((HM2.out.below HB3.out).below HB4.out) (fun z => by simp) (by simp) (own_stays HRX3.out (fun i e => HB4.out.block i (own_ge HRX3.out e).2)) HNO.out HBW4.out.size (by rw [HPP.out]; exact Nat.le_refl _) HO.out)
  have HMN4 := hid (HM3.out.below HB4.out)
  have HRY4 := hid (own_base (B := w.heap.size) HRY.out (by have := HB2.out.size; have := HB3.out.size; omega))
  have HAP : Hid ((p < w2.heap.size ∧ ∀ b, o = some b → b < w2.heap.size) ∧ (∀ k, (Value.slice av0 X0.length kv0).ownBlock = some k → k < w2.heap.size) ∧ (w2.heap.size ≤ p2 ∧ p2 < w4.heap.size) ∧ (∀ b, o2 = some b → w2.heap.size ≤ b ∧ b < w4.heap.size) ∧ (∀ k, (Value.slice ay X0.length ky).ownBlock = some k → w2.heap.size ≤ k ∧ k < w4.heap.size ∧ k ≠ p2 ∧ some k ≠ o2)) := hid ⟨⟨HM2.out.rm.lt, fun b e => HM2.out.olt e⟩, fun k hk => (own_ge HRX.out hk).2, ⟨HL2.out, HMN4.out.rm.lt⟩, fun b e => ⟨HO2.out b e, HMN4.out.olt e⟩, fun k hk => by
    have h1 := own_ge HRY.out hk
    have h2 := HB3.out.size
    have h3 := HM3.out.rm.lt
    exact ⟨by omega, h1.2, by omega, fun e => by have := HM3.out.olt e.symm; omega⟩⟩
  have HSZ : Hid (w2.heap.size ≤ w4.heap.size ∧ w.heap.size ≤ w2.heap.size) := hid ⟨by have := HB3.out.size; have := HB4.out.size; omega, HB2.out.size⟩
  clear HRX3 HRX HRY HB4 HB3 HB2 HM2 HM3 HL2 HO2 HNO
  go_wp2_with (first | (at_builtin; refine wpList_append_run rfl (.tmp 45) (.tmp 46) 22 rfl (.slice none 0 0) (.slice av0 X0.length kv0) (.slice ay X0.length ky) w4 rfl rfl HRUN.out ?_))
  go_loopg [10, 13] nb (fun gg s10 s13 wr => ∃ (i : Nat) (av : Option Addr) (kv : Nat), i ≤ nb ∧ gg = nb - i ∧ s10 = .slice av (X0 ++ rights (b.take i)).length kv ∧ s13 = .int .i64 (i : Int) ∧ Below w.heap.size w wr ∧ Lx U w4 o (.slice av0 X0.length kv0) w.heap.size p (X0 ++ rights (b.take i)) (.slice av (X0 ++ rights (b.take i)).length kv) wr)
  case atStart => exact ⟨0, av0, kv0, by omega, by omega, by simp [rights], rfl, HBW4.out, by simpa [rights] using HLX0.out⟩
  case round =>
    obtain ⟨i, av, kv, hi, rfl, rfl, rfl, hbw, hlx⟩ := hrel
    have HLX := hid hlx
    have HBW := hid hbw
    clear hlx hbw
    by_cases hil : i < nb
    · have hi1 : (i : Int) < (nb : Int) := by omega
      have hik : i < b.length := by rw [← HNB.out]; exact hil
      obtain ⟨g, o', hao, hce⟩ := HBC.out i hik
      subst hao
      have HCE := hid hce
      have hc1 := hce wr HBW.out
      have HST := hid (rights_step b i hik)
      have HXL : Hid ((X0 ++ rights (b.take i)).length < 1000) := hid (by
        have h1 := HBL.out
        have h2 := rights_le b i
        rw [List.length_append]
        have := HNB.out
        omega)
      have HRO := hid (HLX.out.round HUN.out HG1.out (t := b[i]) (HUB.out b[i] (List.getElem_mem hik)) HXL.out)
      generalize b[i] = t at hc1 HCE HST HRO
      clear hce
      have HX2 : Hid (X0 ++ rights (b.take (i + 1)) = (X0 ++ rights (b.take i)) ++ (if Tm.deep t = 0 then [] else [t])) := hid (by rw [HST.out, List.append_assoc])
      generalize X0 ++ rights (b.take i) = X at HLX HRO HX2 HXL
      go_wp2_with fail
      refine HRO.out.mono ?_
      rintro e w7 (⟨hd, rfl, hlx7, hb7⟩ | ⟨hd, rfl, ⟨hrow7, hB7⟩, hb7, hnext⟩)
      · have HL7 := hid hlx7
        have HB7 := hid (HBW.out.trans hb7)
        rw [if_pos hd, List.append_nil] at HX2
        clear hlx7 hb7 hd
        go_wp2_with fail
        go_roundg (nb - (i + 1))
        case measure => omega
        case rel => exact ⟨i + 1, av, kv, by omega, rfl, by rw [HX2.out], by go_num, HB7.out, by rw [HX2.out]; exact HL7.out⟩
      · have HB7 := hid (HBW.out.trans hb7)
        have hc2 := HCE.out w7 HB7.out
        rw [if_neg hd] at HX2
        obtain ⟨av2, kv2, w8, hrun, hown8, hg8⟩ := append_gw w7 w.heap.size (.slice av X.length kv) X t hrow7 (by have := HXL.out; omega) hB7
        have HRUN := hid hrun
        have HL8 := hid (hnext _ _ hown8 hg8)
        have HB8 := hid (HB7.out.trans (hg8.low (fun k hk => (own_ge hrow7 hk).1) hB7))
        clear hrun hown8 hg8 hnext hrow7 hB7 hb7 hd hc1
        go_wp2_with (first | (at_builtin; refine wpList_append_run rfl (.tmp 61) (.tmp 66) 22 rfl (.slice av X.length kv) (.slice (some ⟨w7.heap.size, 0, none⟩) 1 1) (.slice av2 (X.length + 1) kv2) w8 rfl rfl HRUN.out ?_))
        go_roundg (nb - (i + 1))
        case measure => omega
        case rel => exact ⟨i + 1, av2, kv2, by omega, rfl, by rw [HX2.out]; simp, by go_num, HB8.out, by rw [HX2.out]; simpa using HL8.out⟩
    · have hi1 : ¬ (i : Int) < (nb : Int) := by omega
      have HTK : Hid (b.take i = b) := hid (List.take_of_length_le (by rw [← HNB.out]; omega))
      rw [HTK.out] at HLX ⊢
      clear HTK hi hil
      obtain ⟨w5, hww⟩ : ∃ ww, ww = wr := ⟨_, rfl⟩
      obtain rfl := hww
      obtain ⟨oM, NM1, hlM, hmM, hsM, hoM, haM, _, _⟩ := HLX.out.mi
      have HSM := hid hsM
      have HMM := hid hmM
      have HRX5 := hid HLX.out.row
      obtain ⟨hmN5, hrY5⟩ := HLX.out.other HMN4.out HRY4.out (by have := HAP.out.1.1; have := HAP.out.2.2.1.1; omega) (fun e => by have := HAP.out.1.2 p2 e.symm; have := HAP.out.2.2.1.1; omega) (fun e => by have := HAP.out.2.1 p2 e; have := HAP.out.2.2.1.1; omega) (fun b' e => by
        have h1 := HAP.out.2.2.2.1 b' e
        have h2 := HAP.out.1.1
        exact ⟨by omega, fun e2 => by have := HAP.out.1.2 b' e2.symm; omega, fun e2 => by have := HAP.out.2.1 b' e2; omega⟩) (fun k e => by
        have h1 := HAP.out.2.2.2.2 k e
        have h2 := HAP.out.1.1
        exact ⟨by omega, fun e2 => by have := HAP.out.1.2 k e2.symm; omega, fun e2 => by have := HAP.out.2.1 k e2; omega⟩)
      have HLY0 : Hid (Lx U w5 o2 (.slice ay X0.length ky) w.heap.size p2 X0 (.slice ay X0.length ky) w5) := hid (Lx.start hmN5 (fun z => by simp) (by simp) hrY5 (fun k e => ⟨(HAP.out.2.2.2.2 k e).2.2.1, (HAP.out.2.2.2.2 k e).2.2.2⟩) HBW.out.size (by have := HAP.out.2.2.1.1; have := HSZ.out.2; omega) (fun b' e => by have := (HAP.out.2.2.2.1 b' e).1; have := HSZ.out.2; omega))
      have HAM : Hid (p ≠ p2 ∧ some p ≠ o2 ∧ (Value.slice ay X0.length ky).ownBlock ≠ some p ∧ (∀ b', oM = some b' → b' ≠ p2 ∧ some b' ≠ o2 ∧ (Value.slice ay X0.length ky).ownBlock ≠ some b') ∧ (∀ k, (Value.slice av (X0 ++ rights b).length kv).ownBlock = some k → k ≠ p2 ∧ some k ≠ o2 ∧ (Value.slice ay X0.length ky).ownBlock ≠ some k)) := hid (by
        have a1 := HAP.out.1.1
        have a2 := HAP.out.2.2.1
        have apart : ∀ k, (k < w2.heap.size ∨ w4.heap.size ≤ k) → k ≠ p2 ∧ some k ≠ o2 ∧ (Value.slice ay X0.length ky).ownBlock ≠ some k := fun k hk => ⟨by omega, fun e => by have := HAP.out.2.2.2.1 k e.symm; omega, fun e => by have := HAP.out.2.2.2.2 k e; omega⟩
        have ap := apart p (Or.inl a1)
        refine ⟨ap.1, ap.2.1, ap.2.2, fun b' e => apart b' ?_, fun k e => apart k ?_⟩
        · rcases hoM with e2 | ⟨b2, e2, hb2⟩
          · exact Or.inl (HAP.out.1.2 b' (by rw [← e2]; exact e))
          · rw [e2] at e; cases e; exact Or.inr hb2
        · rcases HLX.out.own k e with e2 | e2
          · exact Or.inl (HAP.out.2.1 k e2)
          · exact Or.inr e2)
      clear hmM hsM hoM haM hmN5 hrY5 HLX HMN4 HRY4
      have HBW5 := HBW
      clear HBW
      obtain ⟨qx, hqx⟩ : ∃ q, q = (X0 ++ rights b).length := ⟨_, rfl⟩
      rw [← hqx]
      have HQX := hid hqx
      clear hqx
      go_wp2_with fail
      clear hi1
      go_loopg [12, 14] nc (fun gg s12 s14 wr => ∃ (i : Nat) (av : Option Addr) (kv : Nat), i ≤ nc ∧ gg = nc - i ∧ s12 = .slice av (X0 ++ rights (c.take i)).length kv ∧ s14 = .int .i64 (i : Int) ∧ Below w.heap.size w wr ∧ Lx U w5 o2 (.slice ay X0.length ky) w.heap.size p2 (X0 ++ rights (c.take i)) (.slice av (X0 ++ rights (c.take i)).length kv) wr)
      case atStart => exact ⟨0, ay, ky, by omega, by omega, by simp [rights], rfl, HBW5.out, by simpa [rights] using HLY0.out⟩
      case round =>
        obtain ⟨i, av, kv, hi, rfl, rfl, rfl, hbw, hlx⟩ := hrel
        have HLX := hid hlx
        have HBW := hid hbw
        clear hlx hbw
        by_cases hil : i < nc
        · have hi1 : (i : Int) < (nc : Int) := by omega
          have hik : i < c.length := by rw [← HNC.out]; exact hil
          obtain ⟨g, o', hao, hce⟩ := HCC.out i hik
          subst hao
          have HCE := hid hce
          have hc1 := hce wr HBW.out
          have HST := hid (rights_step c i hik)
          have HXL : Hid ((X0 ++ rights (c.take i)).length < 1000) := hid (by
            have h1 := HBL.out
            have h2 := rights_le c i
            rw [List.length_append]
            have := HNC.out
            omega)
          have HRO := hid (HLX.out.round HUN.out HG1.out (t := c[i]) (HUC.out c[i] (List.getElem_mem hik)) HXL.out)
          generalize c[i] = t at hc1 HCE HST HRO
          clear hce
          have HX2 : Hid (X0 ++ rights (c.take (i + 1)) = (X0 ++ rights (c.take i)) ++ (if Tm.deep t = 0 then [] else [t])) := hid (by rw [HST.out, List.append_assoc])
          generalize X0 ++ rights (c.take i) = X at HLX HRO HX2 HXL
          go_wp2_with fail
          refine HRO.out.mono ?_
          rintro e w7 (⟨hd, rfl, hlx7, hb7⟩ | ⟨hd, rfl, ⟨hrow7, hB7⟩, hb7, hnext⟩)
          · have HL7 := hid hlx7
            have HB7 := hid (HBW.out.trans hb7)
            rw [if_pos hd, List.append_nil] at HX2
            clear hlx7 hb7 hd
            go_wp2_with fail
            go_roundg (nc - (i + 1))
            case measure => omega
            case rel => exact ⟨i + 1, av, kv, by omega, rfl, by rw [HX2.out], by go_num, HB7.out, by rw [HX2.out]; exact HL7.out⟩
          · have HB7 := hid (HBW.out.trans hb7)
            have hc2 := HCE.out w7 HB7.out
            rw [if_neg hd] at HX2
            obtain ⟨av2, kv2, w8, hrun, hown8, hg8⟩ := append_gw w7 w.heap.size (.slice av X.length kv) X t hrow7 (by have := HXL.out; omega) hB7
            have HRUN := hid hrun
            have HL8 := hid (hnext _ _ hown8 hg8)
            have HB8 := hid (HB7.out.trans (hg8.low (fun k hk => (own_ge hrow7 hk).1) hB7))
            clear hrun hown8 hg8 hnext hrow7 hB7 hb7 hd hc1
            go_wp2_with (first | (at_builtin; refine wpList_append_run rfl (.tmp 81) (.tmp 86) 22 rfl (.slice av X.length kv) (.slice (some ⟨w7.heap.size, 0, none⟩) 1 1) (.slice av2 (X.length + 1) kv2) w8 rfl rfl HRUN.out ?_))
            go_roundg (nc - (i + 1))
            case measure => omega
            case rel => exact ⟨i + 1, av2, kv2, by omega, rfl, by rw [HX2.out]; simp, by go_num, HB8.out, by rw [HX2.out]; simpa using HL8.out⟩
        · have hi1 : ¬ (i : Int) < (nc : Int) := by omega
          have HTK : Hid (c.take i = c) := hid (List.take_of_length_le (by rw [← HNC.out]; omega))
          rw [HTK.out] at HLX ⊢
          clear HTK hi hil
          obtain ⟨w6, hww⟩ : ∃ ww, ww = wr := ⟨_, rfl⟩
          obtain rfl := hww
          have HLY := HLX
          have HBW6 := HBW
          obtain ⟨oN, NN, hlN, hmN, hsN, _, haN, _, _⟩ := HLY.out.mi
          obtain ⟨hmM6, hrX6⟩ := HLY.out.other HMM.out HRX5.out HAM.out.1 HAM.out.2.1 HAM.out.2.2.1 HAM.out.2.2.2.1 HAM.out.2.2.2.2
          have HMM6 := hid hmM6
          have HRX6 := hid hrX6
          have HMN6 := hid hmN
          have HRY6 := hid HLY.out.row
          have HSN := hid hsN
          have HXL : Hid ((X0 ++ rights b).length ≤ 1000 ∧ (X0 ++ rights c).length ≤ 1000) := hid (by
            have h1 := HBL.out
            have h2 : (rights b).length ≤ b.length := List.length_filter_le _ _
            have h3 : (rights c).length ≤ c.length := List.length_filter_le _ _
            have := HNB.out
            have := HNC.out
            rw [List.length_append, List.length_append]
            omega)
          have HXD : Hid ((∀ x ∈ X0 ++ rights b, Tm.deep x ≠ 0) ∧ ∀ x ∈ X0 ++ rights c, Tm.deep x ≠ 0) := hid ⟨fun x hx => (List.mem_append.1 hx).elim (HXR.out x) rights_right, fun x hx => (List.mem_append.1 hx).elim (HXR.out x) rights_right⟩
          have HKX := hid (fun W t (hb : Below w6.heap.size w6 W) => dknows_any W _ _ (X0 ++ rights b) t (texts_below (own_texts HRX6.out) hb) HXL.out.1 HXD.out.1 HXS.out.1 HMM6.out HSM.out)
          have HKY := hid (fun W t (hb : Below w6.heap.size w6 W) => dknows_any W _ _ (X0 ++ rights c) t (texts_below (own_texts HRY6.out) hb) HXL.out.2 HXD.out.2 HXS.out.2 HMN6.out HSN.out)
          have HPX := hid (fun W t (hb : Below w6.heap.size w6 W) (ht : t.length ≤ 100000) => knows_any W p oM NM1 t (HMM6.out.below hb).rm ht)
          have HPY := hid (fun W t (hb : Below w6.heap.size w6 W) (ht : t.length ≤ 100000) => knows_any W p2 oN NN t (HMN6.out.below hb).rm ht)
          clear hmN hsN haN hmM6 hrX6 HLX HLY HMM HRX5 HAM HSM HSN HMM6 HMN6 HRX6 HRY6
          rw [← HQX.out] at HKX
          generalize (X0 ++ rights c).length = qy at HKY ⊢
          go_wp2_with fail
          go_loopg [15] nk (fun gg s15 wr => ∃ i : Nat, i ≤ nk ∧ gg = nk - i ∧ s15 = .int .i64 (i : Int) ∧ Below w6.heap.size w6 wr)
          case atStart => exact ⟨0, by omega, by omega, rfl, Below.refl _ _⟩
          case round =>
            obtain ⟨j, hj, rfl, rfl, hbel⟩ := hrel
            have HBE := hid hbel
            clear hbel
            by_cases hjl : j < nk
            · have hj1 : (j : Int) < (nk : Int) := by omega
              have hj0 : (0 : Int) ≤ (j : Int) := by omega
              have hjk : j < ask.length := by rw [← HNK.out]; exact hjl
              obtain ⟨g, o', hao, hce⟩ := HKC.out j hjk
              subst hao
              have HTL : Hid (ask[j].length ≤ 100000) := hid (by have := HKL.out j hjk; omega)
              have HS : Hid (∀ W, Below w6.heap.size w6 W → W.cell? ⟨g, o' + j, none⟩ = some (St ask[j])) := hid (fun W hb => hce W (two_below HBW6.out hb))
              clear hce
              generalize ask[j] = t at HS HTL
              have K1 := hid (fun W (hb : Below w6.heap.size w6 W) => HPX.out W t hb HTL.out)
              have K2 := hid (fun W (hb : Below w6.heap.size w6 W) => HKX.out W t hb)
              have K3 := hid (fun W (hb : Below w6.heap.size w6 W) => HPY.out W t hb HTL.out)
              have K4 := hid (fun W (hb : Below w6.heap.size w6 W) => HKY.out W t hb)
              generalize mkF NM1 t = b1 at K1 K2
              generalize mkF NN t = b2 at K3 K4
              have S0 := hid (HS.out wr HBE.out)
              have hc1 := S0.out
              cases b1 <;> cases b2
              · go_wp2_with fail
                go_region_held3 (fun wx => wx.cell? ⟨g, o' + j, none⟩ = some (St t)) (first | exact SX.out | exact S0.out) (first | (go_at_call_of 9 p; refine (K1.out _ (by first | exact HBX.out | exact HBE.out.drew)).mono ?_; rintro e wX ⟨rfl, hbX⟩; have HBX := hid (two_below (by first | exact HBX.out | exact HBE.out.drew) hbX); have SX := hid (HS.out _ HBX.out); clear hbX) | (go_at_call_of 9 p2; refine (K3.out _ (by first | exact HBX.out | exact HBE.out.drew)).mono ?_; rintro e wX ⟨rfl, hbX⟩; have HBX := hid (two_below (by first | exact HBX.out | exact HBE.out.drew) hbX); have SX := hid (HS.out _ HBX.out); clear hbX) | (go_at_call_of 46 qx; refine (K2.out _ (by first | exact HBX.out | exact HBE.out.drew)).mono ?_; rintro e wX ⟨rfl, hbX⟩; have HBX := hid (two_below (by first | exact HBX.out | exact HBE.out.drew) hbX); have SX := hid (HS.out _ HBX.out); clear hbX) | (go_at_call_of 46 qy; refine (K4.out _ (by first | exact HBX.out | exact HBE.out.drew)).mono ?_; rintro e wX ⟨rfl, hbX⟩; have HBX := hid (two_below (by first | exact HBX.out | exact HBE.out.drew) hbX); have SX := hid (HS.out _ HBX.out); clear hbX))
                go_wp2_with fail
                go_roundg (nk - (j + 1))
                case measure => omega
                case rel => exact ⟨j + 1, by omega, rfl, by go_num, HBX.out⟩
              · go_wp2_with fail
                go_region_held3 (fun wx => wx.cell? ⟨g, o' + j, none⟩ = some (St t)) (first | exact SX.out | exact S0.out) (first | (go_at_call_of 9 p; refine (K1.out _ (by first | exact HBX.out | exact HBE.out.drew)).mono ?_; rintro e wX ⟨rfl, hbX⟩; have HBX := hid (two_below (by first | exact HBX.out | exact HBE.out.drew) hbX); have SX := hid (HS.out _ HBX.out); clear hbX) | (go_at_call_of 9 p2; refine (K3.out _ (by first | exact HBX.out | exact HBE.out.drew)).mono ?_; rintro e wX ⟨rfl, hbX⟩; have HBX := hid (two_below (by first | exact HBX.out | exact HBE.out.drew) hbX); have SX := hid (HS.out _ HBX.out); clear hbX) | (go_at_call_of 46 qx; refine (K2.out _ (by first | exact HBX.out | exact HBE.out.drew)).mono ?_; rintro e wX ⟨rfl, hbX⟩; have HBX := hid (two_below (by first | exact HBX.out | exact HBE.out.drew) hbX); have SX := hid (HS.out _ HBX.out); clear hbX) | (go_at_call_of 46 qy; refine (K4.out _ (by first | exact HBX.out | exact HBE.out.drew)).mono ?_; rintro e wX ⟨rfl, hbX⟩; have HBX := hid (two_below (by first | exact HBX.out | exact HBE.out.drew) hbX); have SX := hid (HS.out _ HBX.out); clear hbX))
                go_wp2_with fail
                go_roundg (nk - (j + 1))
                case measure => omega
                case rel => exact ⟨j + 1, by omega, rfl, by go_num, HBX.out⟩
              · go_wp2_with fail
                go_region_held3 (fun wx => wx.cell? ⟨g, o' + j, none⟩ = some (St t)) (first | exact SX.out | exact S0.out) (first | (go_at_call_of 9 p; refine (K1.out _ (by first | exact HBX.out | exact HBE.out.drew)).mono ?_; rintro e wX ⟨rfl, hbX⟩; have HBX := hid (two_below (by first | exact HBX.out | exact HBE.out.drew) hbX); have SX := hid (HS.out _ HBX.out); clear hbX) | (go_at_call_of 9 p2; refine (K3.out _ (by first | exact HBX.out | exact HBE.out.drew)).mono ?_; rintro e wX ⟨rfl, hbX⟩; have HBX := hid (two_below (by first | exact HBX.out | exact HBE.out.drew) hbX); have SX := hid (HS.out _ HBX.out); clear hbX) | (go_at_call_of 46 qx; refine (K2.out _ (by first | exact HBX.out | exact HBE.out.drew)).mono ?_; rintro e wX ⟨rfl, hbX⟩; have HBX := hid (two_below (by first | exact HBX.out | exact HBE.out.drew) hbX); have SX := hid (HS.out _ HBX.out); clear hbX) | (go_at_call_of 46 qy; refine (K4.out _ (by first | exact HBX.out | exact HBE.out.drew)).mono ?_; rintro e wX ⟨rfl, hbX⟩; have HBX := hid (two_below (by first | exact HBX.out | exact HBE.out.drew) hbX); have SX := hid (HS.out _ HBX.out); clear hbX))
                go_wp2_with fail
                go_roundg (nk - (j + 1))
                case measure => omega
                case rel => exact ⟨j + 1, by omega, rfl, by go_num, HBX.out⟩
              · go_wp2_with fail
                go_region_held3 (fun wx => wx.cell? ⟨g, o' + j, none⟩ = some (St t)) (first | exact SX.out | exact S0.out) (first | (go_at_call_of 9 p; refine (K1.out _ (by first | exact HBX.out | exact HBE.out.drew)).mono ?_; rintro e wX ⟨rfl, hbX⟩; have HBX := hid (two_below (by first | exact HBX.out | exact HBE.out.drew) hbX); have SX := hid (HS.out _ HBX.out); clear hbX) | (go_at_call_of 9 p2; refine (K3.out _ (by first | exact HBX.out | exact HBE.out.drew)).mono ?_; rintro e wX ⟨rfl, hbX⟩; have HBX := hid (two_below (by first | exact HBX.out | exact HBE.out.drew) hbX); have SX := hid (HS.out _ HBX.out); clear hbX) | (go_at_call_of 46 qx; refine (K2.out _ (by first | exact HBX.out | exact HBE.out.drew)).mono ?_; rintro e wX ⟨rfl, hbX⟩; have HBX := hid (two_below (by first | exact HBX.out | exact HBE.out.drew) hbX); have SX := hid (HS.out _ HBX.out); clear hbX) | (go_at_call_of 46 qy; refine (K4.out _ (by first | exact HBX.out | exact HBE.out.drew)).mono ?_; rintro e wX ⟨rfl, hbX⟩; have HBX := hid (two_below (by first | exact HBX.out | exact HBE.out.drew) hbX); have SX := hid (HS.out _ HBX.out); clear hbX))
                go_wp2_with fail
                go_roundg (nk - (j + 1))
                case measure => omega
                case rel => exact ⟨j + 1, by omega, rfl, by go_num, HBX.out⟩
            · have hj1 : ¬ (j : Int) < (nk : Int) := by omega
              have HWW := hid (HWK.out wr (two_below HBW6.out HBE.out))
              go_wp2_with (first | (go_at_call 13; refine HWW.out.mono ?_; rintro e w11 ⟨rfl, hb11⟩; have HB11 := hid (two_below (two_below HBW6.out HBE.out) hb11); clear hb11))
              go_ret
              exact ⟨rfl, HB11.out⟩

end Go.Proofs.YtfnnhekjeobicaaGreatDoor

/- The law DeduceCopies, for lists of any length. -/
namespace Go.Proofs.YtfnnhekjeobicaaGreatDoor
open Go.RowKit Go.Maps Go.WideElems

set_option maxRecDepth 100000 in
set_option maxHeartbeats 1000000 in
theorem coplaw_any (w : World) (hG : G0 w) (aa ab ac ak : Option Addr) (ca cb cc ck : Nat) (a b c ask : List Bs) (hka : Texts w (.slice aa a.length ca) a) (hkb : Texts w (.slice ab b.length cb) b) (hkc : Texts w (.slice ac c.length cc) c) (hkk : Texts w (.slice ak ask.length ck) ask) (hma : a.length ≤ maxLen) (hmb : b.length ≤ maxLen) (hmc : c.length ≤ maxLen) (hmk : ask.length ≤ maxLen) (hla : ∀ i (h : i < a.length), a[i].length ≤ 140737488355328) (hlb : ∀ i (h : i < b.length), b[i].length ≤ 140737488355328) (hlc : ∀ i (h : i < c.length), c[i].length ≤ 140737488355328) (hlk : ∀ i (h : i < ask.length), ask[i].length ≤ 140737488355328) :
    Calls Tryz.prog 20 #[.slice aa a.length ca, .slice ab b.length cb, .slice ac c.length cc, .slice ak ask.length ck] w fun e w' => e = .returned (.bool true) ∧ Below w.heap.size w w' := by
  have HS1 := hid (small_any w aa ca a hka hma hla)
  have HS2 := hid (small_any w ab cb b hkb hmb hlb)
  have HS3 := hid (small_any w ac cc c hkc hmc hlc)
  have HS4 := hid (small_any w ak ck ask hkk hmk hlk)
  cases h1 : smallB a with
  | false =>
    rw [h1] at HS1
    clear hG hka hkb hkc hkk hma hmb hmc hmk hla hlb hlc hlk h1 HS2 HS3 HS4
    go_enter Tryz.func20, Tryz.ntmps20
    go_wp2_with fail
    refine HS1.out.mono ?_
    rintro e w1 ⟨rfl, hw1⟩
    obtain rfl := hw1.symm
    go_wp2_with fail
    go_ret
    exact ⟨rfl, Below.refl _ _⟩
  | true =>
    cases h2 : smallB b with
    | false =>
      rw [h1] at HS1
      rw [h2] at HS2
      clear hG hka hkb hkc hkk hma hmb hmc hmk hla hlb hlc hlk h1 h2 HS3 HS4
      go_enter Tryz.func20, Tryz.ntmps20
      go_wp2_with fail
      refine HS1.out.mono ?_
      rintro e w1 ⟨rfl, hw1⟩
      obtain rfl := hw1.symm
      go_wp2_with fail
      refine HS2.out.mono ?_
      rintro e w1 ⟨rfl, hw1⟩
      obtain rfl := hw1.symm
      go_wp2_with fail
      go_ret
      exact ⟨rfl, Below.refl _ _⟩
    | true =>
      cases h3 : smallB c with
      | false =>
        rw [h1] at HS1
        rw [h2] at HS2
        rw [h3] at HS3
        clear hG hka hkb hkc hkk hma hmb hmc hmk hla hlb hlc hlk h1 h2 h3 HS4
        go_enter Tryz.func20, Tryz.ntmps20
        go_wp2_with fail
        refine HS1.out.mono ?_
        rintro e w1 ⟨rfl, hw1⟩
        obtain rfl := hw1.symm
        go_wp2_with fail
        refine HS2.out.mono ?_
        rintro e w1 ⟨rfl, hw1⟩
        obtain rfl := hw1.symm
        go_wp2_with fail
        refine HS3.out.mono ?_
        rintro e w1 ⟨rfl, hw1⟩
        obtain rfl := hw1.symm
        go_wp2_with fail
        go_ret
        exact ⟨rfl, Below.refl _ _⟩
      | true =>
        cases h4 : smallB ask with
        | false =>
          rw [h1] at HS1
          rw [h2] at HS2
          rw [h3] at HS3
          rw [h4] at HS4
          clear hG hka hkb hkc hkk hma hmb hmc hmk hla hlb hlc hlk h1 h2 h3 h4
          go_enter Tryz.func20, Tryz.ntmps20
          go_wp2_with fail
          refine HS1.out.mono ?_
          rintro e w1 ⟨rfl, hw1⟩
          obtain rfl := hw1.symm
          go_wp2_with fail
          refine HS2.out.mono ?_
          rintro e w1 ⟨rfl, hw1⟩
          obtain rfl := hw1.symm
          go_wp2_with fail
          refine HS3.out.mono ?_
          rintro e w1 ⟨rfl, hw1⟩
          obtain rfl := hw1.symm
          go_wp2_with fail
          refine HS4.out.mono ?_
          rintro e w1 ⟨rfl, hw1⟩
          obtain rfl := hw1.symm
          go_wp2_with fail
          go_ret
          exact ⟨rfl, Below.refl _ _⟩
        | true =>
          exact cop_main w hG aa ab ac ak ca cb cc ck a b c ask hka hkb hkc hkk h1 h2 h3 h4 hla hlb hlc hlk
end Go.Proofs.YtfnnhekjeobicaaGreatDoor
