/- The law's own mind: one that has heard the right ones of a list of terms. -/
import Derived.Test.YtfnnhekjeobicaaGreatDoorMi
import Derived.Test.YtfnnhekjeobicaaGreatDoorRReadAll
namespace Go.Proofs.YtfnnhekjeobicaaGreatDoor
open Go.RowKit Go.Maps Go.WideElems

/-- the right ones of the first i -/
def rights (l : List Bs) : List Bs := l.filter (fun t => Tm.deep t != 0)

theorem rights_step (l : List Bs) (i : Nat) (h : i < l.length) : rights (l.take (i + 1)) = rights (l.take i) ++ (if Tm.deep l[i] = 0 then [] else [l[i]]) := by
  unfold rights
  rw [List.take_succ_eq_append_getElem h, List.filter_append]
  congr 1
  by_cases e : Tm.deep l[i] = 0 <;> simp [e]
theorem rights_le (l : List Bs) (i : Nat) : (rights (l.take i)).length ≤ l.length := by
  have h1 : (rights (l.take i)).length ≤ (l.take i).length := List.length_filter_le _ _
  have h2 : (l.take i).length ≤ l.length := by simp; omega
  omega
theorem own_stays {w w' : World} {base : Nat} {v : Value} {n : Nat} {xs : List Value} (ho : w.ownsRow base 29 1 v n xs) (h : ∀ i, v.ownBlock = some i → w'.heap[i]? = w.heap[i]?) : w'.ownsRow base 29 1 v n xs := by
  refine ⟨ho.1, ?_⟩
  rcases ho.2 with h2 | ⟨g, cap, cur, e1, e2, e3, e4⟩
  · exact Or.inl h2
  · exact Or.inr ⟨g, cap, cur, e1, e2, by rw [h g (by rw [e1]; rfl)]; exact e3, e4⟩
theorem own_not {w : World} {p : Nat} {o : Option Nat} {N : NM} {base : Nat} {v : Value} {n : Nat} {xs : List Value} (h : Rm w p o N) (ho : w.ownsRow base 29 1 v n xs) : ∀ i, v.ownBlock = some i → i ≠ p ∧ some i ≠ o := by
  intro i e
  rcases ho.2 with ⟨h1, _⟩ | ⟨k, cap, cur, h1, h2, h3, _⟩
  · subst h1; cases e
  · subst h1
    cases e
    refine ⟨fun e => ?_, fun e => ?_⟩
    · have := h.ptr
      rw [← e, h3] at this
      cases this
    · have hm := h.om
      rw [← e] at hm
      obtain ⟨n, D, ⟨es, clock, hb, _⟩, _⟩ := Om.own hm
      rw [h3] at hb
      cases hb
/-- what lies there in the law's loop -/
structure Ml (U : List Bs) (w : World) (v : Value) (l : List Bs) (wr : World) : Prop where
  mi : ∃ o N, Mi U l.reverse wr w.heap.size o N ∧ ∀ b, o = some b → w.heap.size ≤ b
  row : wr.ownsRow (w.heap.size + 1) 29 1 v l.length (l.map St)
  bel : Below w.heap.size w wr
theorem Ml.below {U : List Bs} {w : World} {v : Value} {l : List Bs} {wr w' : World} (h : Ml U w v l wr) (hb : Below wr.heap.size wr w') : Ml U w v l w' := by
  obtain ⟨o, N, h1, h2⟩ := h.mi
  refine ⟨⟨o, N, h1.below hb, h2⟩, own_stays h.row (fun i e => hb.block i (own_ge h.row e).2), below_two h.bel (below_low hb h.bel.size)⟩
/-- a right term is learnt in it -/
theorem Ml.learn {U : List Bs} (hU : Uni U) {w : World} {v : Value} {l : List Bs} {wr : World} (h : Ml U w v l wr) {t : Bs} (ht : t ∈ U) (hl : l.length < 1024) :
    Calls Tryz.prog 11 #[.pointer (some ⟨w.heap.size, 0, none⟩), St t] wr fun e w' => e = .returned (.int .i64 0) ∧ (∃ o N, Mi U (l ++ [t]).reverse w' w.heap.size o N ∧ ∀ b, o = some b → w.heap.size ≤ b) ∧ w'.ownsRow (w.heap.size + 1) 29 1 v l.length (l.map St) ∧ Below w.heap.size w w' := by
  obtain ⟨o, N, h1, h2⟩ := h.mi
  refine (learn_mind hU h1 ht (by simpa using hl)).mono ?_
  rintro e w' ⟨rfl, o', N', h3, h4, h5⟩
  have hno := own_not h1.rm h.row
  refine ⟨rfl, ⟨o', N', by simpa using h3, fun b hb => ?_⟩, own_stays h.row (fun i e => h4.block i (own_ge h.row e).2 (hno i e).1 (hno i e).2), below_two h.bel (h4.rm_ne h.bel.size (Nat.le_refl _) h2)⟩
  rcases h5 with h5 | ⟨c, h5, h6⟩
  · exact h2 b (by rw [← h5]; exact hb)
  · rw [h5] at hb; cases hb; exact Nat.le_trans h.bel.size h6

set_option maxRecDepth 100000 in
set_option maxHeartbeats 4000000 in
theorem mind_ml {U : List Bs} (hU : Uni U) (w : World) (hG : G0 w) (aq : Option Addr) (cap : Nat) (l : List Bs) (hk : Texts w (.slice aq l.length cap) l) (hl : l.length ≤ 40) (hlU : ∀ t ∈ l, Tm.deep t ≠ 0 → t ∈ U) :
    Calls Tryz.prog 8 #[.slice aq l.length cap] w fun e w' => ∃ v, e = .returned (.tuple #[.pointer (some ⟨w.heap.size, 0, none⟩), v]) ∧ Ml U w v (rights l) w' := by
  have HG := hid hG
  have HC : Hid (∀ i (h : i < l.length), ∃ g o, aq = some ⟨g, o, none⟩ ∧ ∀ W, Below w.heap.size w W → W.cell? ⟨g, o + i, none⟩ = some (St l[i])) := hid (fun i h => by
    obtain ⟨ao', cap', he, ht⟩ := hk
    cases he
    obtain ⟨g, o, e, hg, hc⟩ := ht (fun e => by rw [e] at h; simp at h)
    exact ⟨g, o, e, fun W hb => by rw [← hc i h]; exact World.cell?_of_block (hb.block g hg)⟩)
  have HLU := hid hlU
  have HU := hid hU
  clear hG hk hlU hU
  go_enter Tryz.func8, Tryz.ntmps8
  go_wp2_with fail
  refine (new_any _).mono ?_
  rintro e w1 ⟨rfl, hw1⟩
  have HB1 : Hid (Below w.heap.size w w1) := by apply hid; rw [hw1]; exact (Below.refl _ _).alloc (Nat.le_refl _) _
  have HM1 : Hid (Rm w1 w.heap.size none (fun _ => none)) := by apply hid; rw [hw1]; exact ⟨heap_alloc_new w _, fun _ => rfl⟩
  have HMI : Hid (Mi U [] w1 w.heap.size none (fun _ => none)) := hid ⟨HM1.out, ⟨fun _ h => (by cases h), fun _ h => absurd rfl h⟩, Mind.new.congr (fun t => by simp), HG.out.below HB1.out, fun _ _ _ _ s hs => by cases hs⟩
  have HG1 := hid HG.out.lt
  clear hw1 HM1 HG
  go_wp2_with fail
  obtain ⟨n, hn⟩ : ∃ n, n = l.length := ⟨_, rfl⟩
  rw [← hn] at hl ⊢
  have HN := hid hn
  have HL := hid hl
  clear hn
  have HML : Hid (Ml U w (.slice none 0 0) [] w1) := hid ⟨⟨none, _, HMI.out, fun _ e => by cases e⟩, World.ownsRow_nil _ _ _ _, HB1.out⟩
  clear HMI HB1
  go_loopg [5, 6] n (fun gg v5 v6 wr => ∃ (i : Nat) (ao : Option Addr) (kc : Nat), i ≤ n ∧ gg = n - i ∧ v5 = .slice ao (rights (l.take i)).length kc ∧ v6 = .int .i64 (i : Int) ∧ Ml U w (.slice ao (rights (l.take i)).length kc) (rights (l.take i)) wr)
  case atStart => exact ⟨0, none, 0, by omega, rfl, rfl, rfl, HML.out⟩
  case round =>
    obtain ⟨i, ao, kc, hi, rfl, rfl, rfl, hml⟩ := hrel
    have HM := hid hml
    clear hml HML
    by_cases hil : i < n
    · have hi1 : (i : Int) < (n : Int) := by omega
      have HIL := hid hil
      have hiw : IntKind.i64.wrap ((i : Int) + 1) = (i : Int) + 1 := by rw [IntKind.wrap_i64]; omega
      have hlt : i < l.length := by rw [← HN.out]; exact hil
      have HST := hid (rights_step l i hlt)
      have HRL := hid (rights_le l i)
      obtain ⟨g, off, hao, hce0⟩ := HC.out i hlt
      have HCE := hid hce0
      clear hce0
      subst hao
      have HTU := hid (HLU.out l[i] (List.getElem_mem _))
      generalize l[i] = t at HST HCE HTU
      have hc1 := HCE.out wr HM.out.bel
      clear hi hil
      by_cases hd : Tm.deep t = 0
      · have HST2 : Hid (rights (l.take (i + 1)) = rights (l.take i)) := by apply hid; rw [HST.out, if_pos hd]; simp
        have HLW := hid (learn_wrong wr w.heap.size t hd)
        have HRR := hid (fun W => rright_any t W)
        rw [hd] at HRR
        clear hd
        go_wp2_with fail
        refine HLW.out.mono ?_
        rintro e w2 ⟨rfl, hb2⟩
        have HM2 := hid (HM.out.below hb2)
        have hc2 := HCE.out w2 HM2.out.bel
        clear hb2 hc1
        go_wp2_with fail
        refine (HRR.out _).mono ?_
        rintro e w3 ⟨rfl, hb3⟩
        have HM3 := hid (HM2.out.below hb3)
        clear hb3 hc2
        go_wp2_with fail
        go_roundg (n - (i + 1))
        case measure => have := HIL.out; omega
        case rel => exact ⟨i + 1, ao, kc, HIL.out, rfl, by rw [HST2.out], by go_num, by rw [HST2.out]; exact HM3.out⟩
      · have HST2 : Hid (rights (l.take (i + 1)) = rights (l.take i) ++ [t]) := by apply hid; rw [HST.out, if_neg hd]
        have HLE := hid (HM.out.learn HU.out (HTU.out hd) (by have := HRL.out; have := HN.out; have := HL.out; omega))
        have HRR := hid (fun W => rright_any t W)
        rw [show (Tm.deep t != 0) = true by simpa using hd] at HRR
        clear hd
        go_wp2_with fail
        refine HLE.out.mono ?_
        rintro e w2 ⟨rfl, hmi2, hrow2, hbel2⟩
        have HMI2 := hid hmi2
        have HRO2 := hid hrow2
        have HBE2 := hid hbel2
        have hc2 := HCE.out w2 hbel2
        clear hmi2 hrow2 hbel2 hc1
        go_wp2_with fail
        refine (HRR.out _).mono ?_
        rintro e w3 ⟨rfl, hb3⟩
        have HMI3 : Hid (∃ o N, Mi U (rights (l.take i) ++ [t]).reverse w3 w.heap.size o N ∧ ∀ b, o = some b → w.heap.size ≤ b) := hid (by
          obtain ⟨o, N, h1, h2⟩ := HMI2.out
          exact ⟨o, N, h1.below hb3, h2⟩)
        have HRO3 := hid (own_stays HRO2.out (fun j e => hb3.block j (own_ge HRO2.out e).2))
        have HBE3 := hid (below_two HBE2.out (below_low hb3 HBE2.out.size))
        have hc3 := HCE.out w3 HBE3.out
        have HSZ3 : Hid (w.heap.size + 1 ≤ w3.heap.size) := hid (by
          obtain ⟨o, N, h1, _⟩ := HMI3.out
          have := h1.rm.lt
          omega)
        clear hb3 hc2
        obtain ⟨ao2, kc2, w4, hrun, hown4, hg4⟩ := append_text w3 (w.heap.size + 1) (.slice ao (rights (l.take i)).length kc) (rights (l.take i)) t HRO3.out (by have := HRL.out; have := HN.out; have := HL.out; omega) HSZ3.out
        have HRUN := hid hrun
        have HM4 : Hid (Ml U w (.slice ao2 ((rights (l.take i)).length + 1) kc2) (rights (l.take i) ++ [t]) w4) := hid (by
          obtain ⟨o, N, h1, h2⟩ := HMI3.out
          have hno := own_not h1.rm HRO3.out
          have hb4 : ∀ k, k < w3.heap.size → k = w.heap.size ∨ some k = o ∨ k < w.heap.size → w4.heap[k]? = w3.heap[k]? := fun k hk hkk => hg4.block k hk (fun e => by
            have h5 := hno k e.symm
            have h6 := (own_ge HRO3.out e.symm).1
            rcases hkk with a | a | a
            · exact h5.1 a
            · exact h5.2 a
            · omega)
          refine ⟨⟨o, N, ⟨⟨(hb4 _ h1.rm.lt (Or.inl rfl)).trans h1.rm.ptr, ?_⟩, h1.ok, h1.mind, ?_, h1.loc⟩, h2⟩, by simpa using hown4, ⟨hg4.os.trans HBE3.out.os, hg4.tape.trans HBE3.out.tape, hg4.output.trans HBE3.out.output, Nat.le_trans HBE3.out.size hg4.size, fun k hk => (hb4 k (Nat.lt_of_lt_of_le hk HBE3.out.size) (Or.inr (Or.inr hk))).trans (HBE3.out.block k hk)⟩⟩
          · have := h1.rm.om
            cases o with
            | none => exact this
            | some b => exact Om.same this (hb4 b (Om.lt this) (Or.inr (Or.inl rfl)))
          · obtain ⟨m, fr, h7⟩ := h1.g0
            exact ⟨m, fr, (hb4 1 (lt_of_block h7) (Or.inr (Or.inr HG1.out))).trans h7⟩)
        clear hrun hown4 hg4
        go_wp2_with (first | (at_builtin; refine wpList_append_run rfl (.tmp 28) (.tmp 33) 22 rfl (.slice ao (rights (l.take i)).length kc) (.slice (some ⟨w3.heap.size, 0, none⟩) 1 1) (.slice ao2 ((rights (l.take i)).length + 1) kc2) w4 rfl rfl HRUN.out ?_) | fail)
        go_roundg (n - (i + 1))
        case measure => have := HIL.out; omega
        case rel => exact ⟨i + 1, ao2, kc2, HIL.out, rfl, by rw [HST2.out]; simp, by go_num, by rw [HST2.out]; simpa using HM4.out⟩
    · have hi1 : ¬ (i : Int) < (n : Int) := by omega
      have HE : Hid (l.take i = l) := by apply hid; apply List.take_of_length_le; rw [← HN.out]; omega
      clear hi hil
      go_wp2_with fail
      go_ret2
      have hm := HM.out
      refine ⟨.slice ao (rights (l.take i)).length kc, rfl, ?_⟩
      rw [HE.out] at hm ⊢
      exact hm
theorem mind_any {U : List Bs} (hU : Uni U) (w : World) (hG : G0 w) (aq : Option Addr) (cap : Nat) (l : List Bs) (hk : Texts w (.slice aq l.length cap) l) (hl : l.length ≤ 40) (hlU : ∀ t ∈ l, Tm.deep t ≠ 0 → t ∈ U) :
    Calls Tryz.prog 8 #[.slice aq l.length cap] w fun e w' => ∃ v o N, e = .returned (.tuple #[.pointer (some ⟨w.heap.size, 0, none⟩), v]) ∧ Mi U (rights l).reverse w' w.heap.size o N ∧ w'.ownsRow (w.heap.size + 1) 29 1 v (rights l).length ((rights l).map St) ∧ Below w.heap.size w w' := by
  refine (mind_ml hU w hG aq cap l hk hl hlU).mono ?_
  rintro e w' ⟨v, rfl, h⟩
  obtain ⟨o, N, h1, _⟩ := h.mi
  exact ⟨v, o, N, rfl, h1, h.row, h.bel⟩
/-- a mind that was made at w's end and has heard l -/
structure Mx (U : List Bs) (w : World) (l : List Bs) (wr : World) : Prop where
  mi : ∃ o N, Mi U l wr w.heap.size o N ∧ ∀ b, o = some b → w.heap.size ≤ b
  bel : Below w.heap.size w wr
theorem Ml.mx {U : List Bs} {w : World} {v : Value} {l : List Bs} {wr : World} (h : Ml U w v l wr) : Mx U w l.reverse wr := ⟨h.mi, h.bel⟩
theorem Mx.below {U : List Bs} {w : World} {l : List Bs} {wr w' : World} (h : Mx U w l wr) (hb : Below wr.heap.size wr w') : Mx U w l w' := by
  obtain ⟨o, N, h1, h2⟩ := h.mi
  exact ⟨⟨o, N, h1.below hb, h2⟩, below_two h.bel (below_low hb h.bel.size)⟩
theorem Mx.learn {U : List Bs} (hU : Uni U) {w : World} {l : List Bs} {wr : World} (h : Mx U w l wr) {t : Bs} (ht : t ∈ U) (hl : l.length < 1024) :
    Calls Tryz.prog 11 #[.pointer (some ⟨w.heap.size, 0, none⟩), St t] wr fun e w' => e = .returned (.int .i64 0) ∧ Mx U w (t :: l) w' := by
  obtain ⟨o, N, h1, h2⟩ := h.mi
  refine (learn_mind hU h1 ht hl).mono ?_
  rintro e w' ⟨rfl, o', N', h3, h4, h5⟩
  refine ⟨rfl, ⟨o', N', h3, fun b hb => ?_⟩, below_two h.bel (h4.rm_ne h.bel.size (Nat.le_refl _) h2)⟩
  rcases h5 with h5 | ⟨c, h5, h6⟩
  · exact h2 b (by rw [← h5]; exact hb)
  · rw [h5] at hb; cases hb; exact Nat.le_trans h.bel.size h6
theorem Mx.yes {U : List Bs} {w : World} {l : List Bs} {wr : World} (h : Mx U w l wr) {t : Bs} (ht : t.length ≤ 100000) (hc : Can (fun x => x ∈ l) t) :
    Calls Tryz.prog 9 #[.pointer (some ⟨w.heap.size, 0, none⟩), St t] wr fun e w' => e = .returned (.bool true) ∧ Mx U w l w' := by
  have h' := h
  obtain ⟨o, N, h1, h2⟩ := h.mi
  refine (knows_any wr w.heap.size o N t h1.rm ht).mono ?_
  rintro e w' ⟨rfl, hb⟩
  exact ⟨by rw [(h1.knows t).2 hc], h'.below hb⟩
theorem Mx.no {U : List Bs} {w : World} {l : List Bs} {wr : World} (h : Mx U w l wr) {t : Bs} (ht : t.length ≤ 100000) (hc : ¬ Can (fun x => x ∈ l) t) :
    Calls Tryz.prog 9 #[.pointer (some ⟨w.heap.size, 0, none⟩), St t] wr fun e w' => e = .returned (.bool false) ∧ Mx U w l w' := by
  have h' := h
  obtain ⟨o, N, h1, h2⟩ := h.mi
  refine (knows_any wr w.heap.size o N t h1.rm ht).mono ?_
  rintro e w' ⟨rfl, hb⟩
  refine ⟨?_, h'.below hb⟩
  cases hm : mkF N t with
  | false => rfl
  | true => exact absurd ((h1.knows t).1 hm) hc
theorem Mx.works {U : List Bs} {w : World} {l : List Bs} {wr : World} (h : Mx U w l wr) :
    Calls Tryz.prog 13 #[] wr fun e w' => e = .returned (.bool true) ∧ Mx U w l w' := by
  have h' := h
  obtain ⟨o, N, h1, _⟩ := h.mi
  refine (works_any wr h1.g0).mono ?_
  rintro e w' ⟨rfl, hb⟩
  exact ⟨rfl, h'.below hb⟩
end Go.Proofs.YtfnnhekjeobicaaGreatDoor
