import Derived.Test.YtfnnhekjeobicaaGreatRows
import Derived.Test.YtfnnhekjeobicaaGreatR3Cll
import Derived.Test.YtfnnhekjeobicaaGreatSmAll
import Derived.ProofKit
import Derived.OpenShut
import Derived.Deep.Slices
import Derived.Lib.LaidTab
import Derived.Stop.LaidErr
import Derived.HandedShaped
import Derived.Shelf.Vars
import Derived.Test.YtfnnhekjeobicaaGreatHeAll
/- Terms that came in; the table of powers as the program's text lays it. -/
namespace Go.Proofs.YtfnnhekjeobicaaGreat
open Go.ChangeShapes Go.WideShapes Go.ChangeAt Go.RowKit

theorem laidOut : laidOutB Tryz.prog = true := by kernel_rfl
theorem Tryz.cells28 : Tryz.prog.cellsOf 28 = 1 := by kernel_rfl
/-- a text of an argument is short enough -/
theorem reach_len {s : ByteArray} (h : s.data.toList.length ≤ reachBytes) : s.data.toList.length ≤ 140737488355328 := by
  have h2 := reachBytes_lt
  have e3 : (2 : Nat) ^ 47 = 140737488355328 := by decide
  omega
theorem plain_of_cell {w : World} {a : Addr} {v : Value} (h : w.cell? a = some v) : a = ⟨a.block, a.off, none⟩ ∧ a.block < w.heap.size := by
  unfold World.cell? at h
  split at h
  · rename_i c e fr hb
    split at h
    · cases h
    · rename_i hs
      refine ⟨?_, lt_of_block hb⟩
      cases a with
      | mk b o s => cases s with
        | none => rfl
        | some x => simp at hs
  · cases h

theorem weights_mem {H : Type} {P : Program} {e : TypeId} {x : Nat} {d : DataW H} : ∀ {l : List (DataW H)}, d ∈ l → x ∈ d.weights P e → x ∈ DataW.weightsAll P e l
  | y :: r, hd, hx => by
    rw [DataW.weightsAll, List.mem_append]
    rcases List.mem_cons.1 hd with rfl | h
    · exact Or.inl hx
    · exact Or.inr (weights_mem h hx)

/-- the terms that came in -/
theorem terms_of {H : Type} {enc : TypeId × Value → H} {W : World} {sp : Nat → Bool} {held : Bool} {n : Nat} {v : Value} {d : DataW H} {p : List MemPlace} (h : DataW.trod enc Tryz.prog W 0 sp held n 22 [v] = some (d, p)) (hw : ∀ x ∈ d.weights Tryz.prog 22, x ≤ reachBytes) :
    ∃ (a : Option Addr) (cap : Nat) (ks : List Bs), v = .slice a ks.length cap ∧ Texts W (.slice a ks.length cap) ks ∧ ks.length ≤ maxLen ∧ ∀ i (h : i < ks.length), ks[i].length ≤ 140737488355328 := by
  rcases Go.Deep.open_slice1 Tryz.underlying22 Tryz.cells28 h with ⟨hcs, _⟩ | ⟨a, len, cap, m, k, V, D, Pl, hcs, _, hl, hm, hmm, hx, hel⟩
  · exact ⟨none, 0, [], by simpa using hcs, texts_nil W, by simp, fun i hi => by simp at hi⟩
  · have hlm : len ≤ m := by rw [hmm]; split <;> omega
    have hd : d = .slice ((List.range len).map D) ((List.range (m - len)).map fun j => D (len + j)) := (Prod.mk.inj hx).1
    have hwi : ∀ i, i < len → ∀ x ∈ (D i).weights Tryz.prog 28, x ≤ reachBytes := by
      intro i hi x hxm
      apply hw
      rw [hd, DataW.weights, Tryz.underlying22]
      refine List.mem_cons_of_mem _ (List.mem_append_left _ (weights_mem (d := D i) ?_ hxm))
      exact List.mem_map.2 ⟨i, List.mem_range.2 hi, rfl⟩
    have each : ∀ i : Nat, ∃ c : Bs, i < len → c.length ≤ 140737488355328 ∧ V i = St c := by
      intro i
      by_cases hi : i < len
      · obtain ⟨s, hs1, hs2, _⟩ := DataW.trod_string Tryz.underlying28 (hel i (by omega)).2
        have hD : D i = .lit (.string s.data.toList) := (Prod.mk.inj hs2).1
        have hb := hwi i hi s.data.toList.length (by rw [hD, DataW.weights]; exact List.mem_cons_self)
        exact ⟨s.data.toList, fun _ => ⟨reach_len hb, by simpa using hs1⟩⟩
      · exact ⟨[], fun h => absurd h hi⟩
    obtain ⟨f, hf⟩ := Classical.axiomOfChoice each
    have hlen : ((List.range len).map f).length = len := by simp
    have hg : ∀ i (h : i < ((List.range len).map f).length), ((List.range len).map f)[i] = f i := by
      intro i hi; simp
    refine ⟨some a, cap, (List.range len).map f, by rw [hlen]; simpa using hcs, ⟨_, _, rfl, fun h0 => ?_⟩, by rw [hlen]; omega, fun i hi => ?_⟩
    · have h0' : 0 < len := by
        apply Nat.pos_of_ne_zero; intro e; apply h0; rw [e]; rfl
      have hc0 := (hel 0 (by omega)).1
      have e0 : a.add 0 = a := by simp [Addr.add]
      rw [e0] at hc0
      obtain ⟨ha, hlt⟩ := plain_of_cell hc0
      refine ⟨a.block, a.off, by rw [← ha], hlt, fun i hi => ?_⟩
      have hi' : i < len := by rw [hlen] at hi; exact hi
      have hc := (hel i (by omega)).1
      rw [ha, add_plain] at hc
      rw [hc, (hf i hi').2, hg i hi]
    · rw [hg i hi]
      rw [hlen] at hi
      exact (hf i hi).1
theorem g0_of_shape {W : World} (h : W.ShapedOpen Tryz.prog) : G0 W := by
  obtain ⟨m, hm⟩ := cell_of_shapedOpen_int (P := Tryz.prog) (g := 0) (t := 3) (zero := #[.int .i64 0]) h (of_decide_eq_true (by kernel_rfl)) (by kernel_rfl) rfl (by kernel_rfl) (by kernel_rfl) Tryz.underlying3
  obtain ⟨cs, hh, hs, _⟩ := h.1 0 #[.int .i64 0] 3 (of_decide_eq_true (by kernel_rfl)) (by kernel_rfl)
  have h1 : cs.size = 1 := hs
  rw [cell_of_heap hh] at hm
  refine ⟨m, (0, 0), hh.trans ?_⟩
  have e : cs = #[.int .i64 m] := by
    apply Array.ext (by rw [h1]; rfl)
    intro i hi _
    have : i = 0 := by omega
    subst this
    rw [Array.getElem?_eq_getElem hi] at hm
    exact Option.some.inj hm
  rw [e]
set_option maxRecDepth 100000 in
/-- a slice of terms that came in -/
theorem terms_in {H : Type} {enc : TypeId × Value → H} {W : World} {base : Nat} {v : Value} {d : DataW H} {p : List MemPlace} (hv : Value.okWide Tryz.prog W .any base 22 v) (h : DataW.Trod enc Tryz.prog W 0 (fun _ => true) true 22 v d p) (hw : ∀ x ∈ d.weights Tryz.prog 22, x ≤ reachBytes) :
    ∃ (a : Option Addr) (cap : Nat) (ks : List Bs), v = .slice a ks.length cap ∧ Texts W (.slice a ks.length cap) ks ∧ ks.length ≤ maxLen ∧ ∀ i (h : i < ks.length), ks[i].length ≤ 140737488355328 := by
  obtain ⟨fuel, hf⟩ := h
  obtain ⟨a0, len, cap, rfl⟩ := okWide_slice Tryz.underlying22 hv
  have hf' : DataW.trod enc Tryz.prog W 0 (fun _ => true) true fuel 22 [.slice a0 len cap] = some (d, p) := by simpa [Value.cells] using hf
  exact terms_of hf' hw

end Go.Proofs.YtfnnhekjeobicaaGreat

/- The law DeduceKnows. -/
namespace Go.Proofs.YtfnnhekjeobicaaGreat
open Go.RowKit Go.Maps Go.WideElems

theorem rights_deep {l : List Bs} {x : Bs} (h : x ∈ rights l) : Tm.deep x ≠ 0 := by
  have := (List.mem_filter.1 h).2
  simpa using this
theorem hd_rev (l : List Bs) : (fun x => x ∈ l.reverse) = (fun x => x ∈ l) := funext fun _ => propext List.mem_reverse
/-- the row that is spoilt -/
structure Spo (B : Nat) (a : Option Addr) (n : Nat) (w : World) : Prop where
  row : 0 < n → ∃ g cs, a = some ⟨g, 0, none⟩ ∧ B ≤ g ∧ w.heap[g]? = some (.cells cs 28 (0, 0)) ∧ n ≤ cs.size
theorem Spo.of {w : World} {B C : Nat} {a : Option Addr} {c : Nat} {l : List Bs} (h : w.ownsRow C 28 1 (.slice a l.length c) l.length (l.map St)) (hB : B ≤ C) : Spo B a l.length w := ⟨fun hl => by
  rcases h.2 with ⟨_, h2⟩ | ⟨g, cap, cur, hv, hb, hg, hc1, hc2, hc3, hc4⟩
  · omega
  · cases hv
    exact ⟨g, cur, rfl, by omega, hg, by omega⟩⟩
theorem Spo.below {B : Nat} {a : Option Addr} {n : Nat} {w w' : World} (h : Spo B a n w) (hb : Below w.heap.size w w') : Spo B a n w' := ⟨fun hn => by
  obtain ⟨g, cs, e, h1, h2, h3⟩ := h.row hn
  exact ⟨g, cs, e, h1, (hb.block g (lt_of_block h2)).trans h2, h3⟩⟩
set_option maxRecDepth 100000 in
set_option maxHeartbeats 16000000 in
theorem kno_main (w : World) (hG : G0 w) (aa ak : Option Addr) (ca ck : Nat) (a ask : List Bs) (hka : Texts w (.slice aa a.length ca) a) (hkk : Texts w (.slice ak ask.length ck) ask) (hsa : smallB a = true) (hsk : smallB ask = true) (hla : ∀ i (h : i < a.length), a[i].length ≤ 140737488355328) (hlk : ∀ i (h : i < ask.length), ask[i].length ≤ 140737488355328) :
    Calls Tryz.prog 3 #[.slice aa a.length ca, .slice ak ask.length ck] w fun e w' => e = .returned (.bool true) ∧ Below w.heap.size w w' := by
  have HAS := hid (smallB_of hsa)
  have HKS := hid (smallB_of hsk)
  obtain ⟨U, hU, hUa, _, _⟩ := uni_three a a a HAS.out.2 HAS.out.2 HAS.out.2
  have HS1 := hid (small_any w aa ca a hka (by have := HAS.out.1; unfold maxLen; omega) hla)
  have HS4 := hid (small_any w ak ck ask hkk (by have := HKS.out.1; unfold maxLen; omega) hlk)
  rw [hsa] at HS1
  rw [hsk] at HS4
  have HMD := hid (mind_ml hU w hG aa ca a hka HAS.out.1 hUa)
  have HUN := hid hU
  have HWK := hid (fun W (hb : Below w.heap.size w W) => works_any W (hG.below hb))
  have HKC : Hid (∀ i (h : i < ask.length), ∃ g o, ak = some ⟨g, o, none⟩ ∧ ∀ W, Below w.heap.size w W → W.cell? ⟨g, o + i, none⟩ = some (St ask[i])) := hid (fun i h => by
    obtain ⟨ao', cap', he, ht⟩ := hkk
    cases he
    obtain ⟨g, o, e, hg, hc⟩ := ht (fun e => by rw [e] at h; simp at h)
    exact ⟨g, o, e, fun W hb => by rw [← hc i h]; exact World.cell?_of_block (hb.block g hg)⟩)
  have HKL : Hid (∀ i (h : i < ask.length), ask[i].length ≤ 700) := hid (fun i h => by have h1 := lens_mem (List.getElem_mem h); have h2 := HKS.out.2; omega)
  have HXL : Hid ((rights a).length ≤ 1000) := hid (Nat.le_trans (List.length_filter_le _ _) (by have := HAS.out.1; omega))
  have HXS : Hid (lens (rights a) ≤ 100000) := hid (by have := lens_rights a; have := HAS.out.2; omega)
  have HXD : Hid (∀ x ∈ rights a, Tm.deep x ≠ 0) := hid (fun x h => rights_deep h)
  clear hU hUa hG hka hkk hsa hsk hla hlk
  obtain ⟨nk, hnk⟩ : ∃ n, n = ask.length := ⟨_, rfl⟩
  have HNK := hid hnk
  have hkb : nk ≤ 40 := by have := HKS.out.1; omega
  rw [← hnk] at HS4 ⊢
  clear hnk HAS HKS
  generalize rights a = X0 at HMD HXL HXS HXD
  go_enter Tryz.func3, Tryz.ntmps3
  go_wp2_with fail
  refine HS1.out.mono ?_
  rintro e w1 ⟨rfl, hw1⟩
  obtain rfl := hw1.symm
  go_wp2_with fail
  refine HS4.out.mono ?_
  rintro e w1 ⟨rfl, hw1⟩
  obtain rfl := hw1.symm
  clear HS1 HS4
  go_wp2_with fail
  refine HMD.out.mono ?_
  rintro e w2 ⟨v, rfl, hml⟩
  have HRX := hid hml.row
  have HB2 := hid hml.bel
  obtain ⟨o, N, hmi, ho⟩ := hml.mi
  have HM2 := hid hmi
  clear hml hmi ho HMD
  obtain ⟨p, hp⟩ : ∃ p, p = w.heap.size := ⟨_, rfl⟩
  rw [← hp] at HM2 ⊢
  clear hp
  obtain ⟨av, kv, hv⟩ := own_shape HRX.out
  subst hv
  have HSM : Hid (∀ x, x ∈ X0.reverse ↔ x ∈ X0) := hid (fun x => List.mem_reverse)
  obtain ⟨V, hV, hVl, hVr, hHV, _⟩ := uni_within HXD.out HXS.out []
  have HDH := hid (fun W (hb : Below w2.heap.size w2 W) => dheld_any W av kv X0 V (texts_below (own_texts HRX.out) hb) HXL.out HXD.out hV hVl hVr hHV (fun M hM => hM.full HM2.out HSM.out))
  have HKX := hid (fun W t (hb : Below w2.heap.size w2 W) => dknows_any W av kv X0 t (texts_below (own_texts HRX.out) hb) HXL.out HXD.out HXS.out HM2.out HSM.out)
  have HPX := hid (fun W t (hb : Below w2.heap.size w2 W) (ht : t.length ≤ 100000) => knows_any W p o N t (HM2.out.below hb).rm ht)
  have HHD := hid (fun W (hb : Below w2.heap.size w2 W) => held_mi HUN.out (HM2.out.below hb))
  rw [hd_rev] at HHD
  clear hV hVl hVr hHV HRX HM2 HSM HXL HXS HXD
  generalize X0.length = qx at HDH HKX ⊢
  go_wp2_with fail
  go_loopg [7] nk (fun gg s7 wr => ∃ i : Nat, i ≤ nk ∧ gg = nk - i ∧ s7 = .int .i64 (i : Int) ∧ Below w2.heap.size w2 wr)
  case atStart => exact ⟨0, by omega, by omega, rfl, Below.refl _ _⟩
  case round =>
    obtain ⟨j, hj, rfl, rfl, hbel⟩ := hrel
    have HBE := hid hbel
    clear hbel
    by_cases hjl : j < nk
    · have hj1 : (j : Int) < (nk : Int) := by omega
      have hj0 : (0 : Int) ≤ (j : Int) := by omega
      have hjk : j < ask.length := by rw [← HNK.out]; exact hjl
      obtain ⟨g, o', hao, hce⟩ := HKC.out j hjk
      subst hao
      have HTL : Hid (ask[j].length ≤ 100000) := hid (by have := HKL.out j hjk; omega)
      have HS : Hid (∀ W, Below w2.heap.size w2 W → W.cell? ⟨g, o' + j, none⟩ = some (St ask[j])) := hid (fun W hb => hce W (two_below HB2.out hb))
      clear hce
      generalize ask[j] = t at HS HTL
      have K1 := hid (fun W (hb : Below w2.heap.size w2 W) => HPX.out W t hb HTL.out)
      have K2 := hid (fun W (hb : Below w2.heap.size w2 W) => HKX.out W t hb)
      generalize mkF N t = b1 at K1 K2
      have S0 := hid (HS.out wr HBE.out)
      have hc1 := S0.out
      cases b1
      · go_wp2_with fail
        go_region_held3 (fun wx => wx.cell? ⟨g, o' + j, none⟩ = some (St t)) (first | exact SX.out | exact S0.out) (first | (go_at_call 7; refine (K1.out _ (by first | exact HBX.out | exact HBE.out.drew)).mono ?_; rintro e wX ⟨rfl, hbX⟩; have HBX := hid (two_below (by first | exact HBX.out | exact HBE.out.drew) hbX); have SX := hid (HS.out _ HBX.out); clear hbX) | (go_at_call 8; refine (K2.out _ (by first | exact HBX.out | exact HBE.out.drew)).mono ?_; rintro e wX ⟨rfl, hbX⟩; have HBX := hid (two_below (by first | exact HBX.out | exact HBE.out.drew) hbX); have SX := hid (HS.out _ HBX.out); clear hbX))
        go_wp2_with fail
        go_roundg (nk - (j + 1))
        case measure => omega
        case rel => exact ⟨j + 1, by omega, rfl, by go_num, HBX.out⟩
      · go_wp2_with fail
        go_region_held3 (fun wx => wx.cell? ⟨g, o' + j, none⟩ = some (St t)) (first | exact SX.out | exact S0.out) (first | (go_at_call 7; refine (K1.out _ (by first | exact HBX.out | exact HBE.out.drew)).mono ?_; rintro e wX ⟨rfl, hbX⟩; have HBX := hid (two_below (by first | exact HBX.out | exact HBE.out.drew) hbX); have SX := hid (HS.out _ HBX.out); clear hbX) | (go_at_call 8; refine (K2.out _ (by first | exact HBX.out | exact HBE.out.drew)).mono ?_; rintro e wX ⟨rfl, hbX⟩; have HBX := hid (two_below (by first | exact HBX.out | exact HBE.out.drew) hbX); have SX := hid (HS.out _ HBX.out); clear hbX))
        go_wp2_with fail
        go_roundg (nk - (j + 1))
        case measure => omega
        case rel => exact ⟨j + 1, by omega, rfl, by go_num, HBX.out⟩
    · have hj1 : ¬ (j : Int) < (nk : Int) := by omega
      obtain ⟨w3, rfl⟩ : ∃ w3, w3 = wr := ⟨_, rfl⟩
      clear hj hjl
      go_wp2_with fail
      refine (HHD.out w3 HBE.out).mono ?_
      rintro e w4 ⟨v8, K, rfl, hnd, hKl, hKm, hown, hb4⟩
      have HND := hid hnd
      have HKM := hid hKm
      have hAl : (sorted K).length ≤ 100000000 := by rw [sorted_length]; omega
      obtain ⟨a8, c8, rfl⟩ := own_shape hown
      have HOW := hid hown
      have HB4 := hid (two_below HBE.out hb4)
      clear hnd hKm hown hb4 hKl
      have HSO : Hid (∀ l out : List Bs, l.Nodup → (∀ x, x ∈ l ↔ Hd (fun x => x ∈ X0) x) → out.Perm l → out.Pairwise (· ≤ ·) → out = sorted K) := hid (fun l out h1 h2 h3 h4 => sorted_of h1 HND.out (fun x => (h2 x).trans (HKM.out x).symm) h3 h4)
      generalize sorted K = A at HOW HSO hAl
      have HAL := hid hAl
      obtain ⟨n8, hn8⟩ : ∃ n, n = A.length := ⟨_, rfl⟩
      have HN8 := hid hn8
      rw [← hn8] at hAl ⊢
      clear hn8
      go_wp2_with fail
      refine (HDH.out w4 HB4.out).mono ?_
      rintro e w5 ⟨a5, c5, l5, out, rfl, htx, hnd5, hm5, hpm, hso, hb5⟩
      have he := HSO.out l5 out hnd5 hm5 hpm hso
      subst he
      have HTX := hid htx
      have HB5 := hid (two_below HB4.out hb5)
      have HSA := hid (sameT_any w5 a8 a5 c8 c5 out out (texts_below (own_texts HOW.out) hb5) htx HAL.out HAL.out)
      have HSP := hid ((Spo.of (B := w2.heap.size) HOW.out HBE.out.size).below hb5)
      rw [decide_eq_true rfl] at HSA
      rw [← HN8.out] at HSA HSP ⊢
      clear htx hnd5 hm5 hpm hso hb5 HND HKM HTX
      go_wp2_with fail
      refine HSA.out.mono ?_
      rintro e w6 ⟨rfl, hb6⟩
      have HB6 := hid (two_below HB5.out hb6)
      have HS6 := hid (HSP.out.below hb6)
      clear hb6 HSA HSP
      go_wp2_with fail
      go_loopg [10] n8 (fun gg s10 wr => ∃ i : Nat, i ≤ n8 ∧ gg = n8 - i ∧ s10 = .int .i64 (i : Int) ∧ Below w2.heap.size w2 wr ∧ Spo w2.heap.size a8 n8 wr)
      case atStart => exact ⟨0, by omega, by omega, rfl, HB6.out, HS6.out⟩
      case round =>
        clear HB6 HS6
        obtain ⟨i, hi, rfl, rfl, hbel, hsp⟩ := hrel
        have HBF := hid hbel
        have HSP := hid hsp
        clear hbel hsp
        by_cases hil : i < n8
        · have hi1 : (i : Int) < (n8 : Int) := by omega
          obtain ⟨g, cs, hao, hg, hh, hcs⟩ := HSP.out.row (by omega)
          subst hao
          have hc : wr.cell? ⟨g, i, none⟩ = some cs[i] := by rw [cell_of_heap hh, Array.getElem?_eq_getElem (by omega)]
          have hf : wr.frozen? ⟨g, i, none⟩ = false := frozen_of_heap hh i
          have HBS : Hid (∀ v, Below w2.heap.size w2 (wr.setCell ⟨g, i, none⟩ v)) := hid (fun v => below_setCell HBF.out hg)
          have HSS : Hid (∀ v, Spo w2.heap.size (some ⟨g, 0, none⟩) n8 (wr.setCell ⟨g, i, none⟩ v)) := hid (fun v => ⟨fun _ => ⟨g, _, rfl, hg, heap_setCell_same hh i v, by simpa using hcs⟩⟩)
          generalize cs[i] = u at hc
          clear hg hh hcs
          go_wp2_with fail
          go_roundg (n8 - (i + 1))
          case measure => omega
          case rel => exact ⟨i + 1, by omega, rfl, by go_num, HBS.out _, HSS.out _⟩
        · have hi1 : ¬ (i : Int) < (n8 : Int) := by omega
          obtain ⟨w7, rfl⟩ : ∃ w7, w7 = wr := ⟨_, rfl⟩
          clear hi hil
          go_wp2_with fail
          refine (HHD.out w7 HBF.out).mono ?_
          rintro e w8 ⟨v9, K2, rfl, hnd, hKl, hKm, hown, hb8⟩
          have HND := hid hnd
          have HKM := hid hKm
          have hAl2 : (sorted K2).length ≤ 100000000 := by rw [sorted_length]; omega
          have HAL2 := hid hAl2
          obtain ⟨a9, c9, rfl⟩ := own_shape hown
          have HOW2 := hid hown
          have HB8 := hid (two_below HBF.out hb8)
          clear hnd hKm hown hb8 hKl hAl2
          have HSO2 : Hid (∀ l out : List Bs, l.Nodup → (∀ x, x ∈ l ↔ Hd (fun x => x ∈ X0) x) → out.Perm l → out.Pairwise (· ≤ ·) → out = sorted K2) := hid (fun l out h1 h2 h3 h4 => sorted_of h1 HND.out (fun x => (h2 x).trans (HKM.out x).symm) h3 h4)
          generalize sorted K2 = A2 at HOW2 HSO2 HAL2
          obtain ⟨n9, hn9⟩ : ∃ n, n = A2.length := ⟨_, rfl⟩
          have HN9 := hid hn9
          rw [← hn9]
          clear hn9
          go_wp2_with fail
          refine (HDH.out w8 HB8.out).mono ?_
          rintro e w9 ⟨a5, c5, l5, out, rfl, htx, hnd5, hm5, hpm, hso, hb9⟩
          have he := HSO2.out l5 out hnd5 hm5 hpm hso
          subst he
          have HB9 := hid (two_below HB8.out hb9)
          have HSA := hid (sameT_any w9 a9 a5 c9 c5 out out (texts_below (own_texts HOW2.out) hb9) htx HAL2.out HAL2.out)
          rw [decide_eq_true rfl] at HSA
          rw [← HN9.out] at HSA ⊢
          clear htx hnd5 hm5 hpm hso hb9 HND HKM
          go_wp2_with fail
          refine HSA.out.mono ?_
          rintro e w10 ⟨rfl, hb10⟩
          have HB10 := hid (two_below HB2.out (two_below HB9.out hb10))
          clear hb10 HSA
          have HWW := hid (HWK.out w10 HB10.out)
          go_wp2_with (first | (go_at_call 12; refine HWW.out.mono ?_; rintro e w11 ⟨rfl, hb11⟩; have HB11 := hid (two_below HB10.out hb11); clear hb11))
          go_ret
          exact ⟨rfl, HB11.out⟩
end Go.Proofs.YtfnnhekjeobicaaGreat

/- The law DeduceKnows, for lists of any length. -/
namespace Go.Proofs.YtfnnhekjeobicaaGreat
open Go.RowKit Go.Maps Go.WideElems

set_option maxRecDepth 100000 in
set_option maxHeartbeats 1000000 in
theorem knolaw_any (w : World) (hG : G0 w) (aa ab : Option Addr) (ca cb : Nat) (a b : List Bs) (hka : Texts w (.slice aa a.length ca) a) (hkb : Texts w (.slice ab b.length cb) b) (hma : a.length ≤ maxLen) (hmb : b.length ≤ maxLen) (hla : ∀ i (h : i < a.length), a[i].length ≤ 140737488355328) (hlb : ∀ i (h : i < b.length), b[i].length ≤ 140737488355328) :
    Calls Tryz.prog 3 #[.slice aa a.length ca, .slice ab b.length cb] w fun e w' => e = .returned (.bool true) ∧ Below w.heap.size w w' := by
  have HS1 := hid (small_any w aa ca a hka hma hla)
  have HS2 := hid (small_any w ab cb b hkb hmb hlb)
  cases h1 : smallB a with
  | false =>
    rw [h1] at HS1
    clear hG hka hkb hma hmb hla hlb h1 HS2
    go_enter Tryz.func3, Tryz.ntmps3
    go_wp2_with fail
    refine HS1.out.mono ?_
    rintro e w1 ⟨rfl, hw1⟩
    obtain rfl := hw1.symm
    go_wp2_with fail
    go_ret
    exact ⟨rfl, Below.refl _ _⟩
  | true =>
    cases h2 : smallB b with
    | false =>
      rw [h1] at HS1
      rw [h2] at HS2
      clear hG hka hkb hma hmb hla hlb h1 h2
      go_enter Tryz.func3, Tryz.ntmps3
      go_wp2_with fail
      refine HS1.out.mono ?_
      rintro e w1 ⟨rfl, hw1⟩
      obtain rfl := hw1.symm
      go_wp2_with fail
      refine HS2.out.mono ?_
      rintro e w1 ⟨rfl, hw1⟩
      obtain rfl := hw1.symm
      go_wp2_with fail
      go_ret
      exact ⟨rfl, Below.refl _ _⟩
    | true => exact kno_main w hG aa ab ca cb a b hka hkb h1 h2 hla hlb
end Go.Proofs.YtfnnhekjeobicaaGreat

/- Proved: whatever two lists of terms are handed to DeduceKnows, it answers true and leaves them as they were. -/
namespace Go.Proofs.YtfnnhekjeobicaaGreat
open Go.ChangeShapes Go.WideShapes Go.ChangeAt Go.RowKit

theorem kno_own : ownKnob Tryz.prog.godebug = none := by kernel_rfl
set_option maxRecDepth 100000 in
theorem kno_lifted (os : Os) (started : os.Started) (H : Type) (enc : TypeId × Value → H) :
    ReturnsInHanded {} Tryz.checked os 3 .any (Rows.deduceKnowsSpec.pre6 enc Tryz.prog Tryz.f3 Rows.deduceKnowsRow.domain false) (Rows.deduceKnowsSpec.post enc Tryz.prog Tryz.f3 false true false false) := by
  refine returnsInHanded_of_change_shaped (C := Tryz.checked) kno_own started (by kernel_rfl) Tryz.func3
    (ChangeSpec.witness6 (enc := enc) (C := Tryz.checked) false ⟨#[], #[.slice none 0 0, .slice none 0 0], []⟩ 8 (by kernel_rfl) (by kernel_rfl) (by kernel_rfl) (by kernel_rfl)) ?_
  intro W base args ds gs before hval0 hW hcnd hsz hsh _
  have hval : ∀ (j : Nat) t v, Tryz.f3.params[j]? = some t → args[j]? = some v → Value.okWide Tryz.prog W .any base t v := hval0
  have hW' := hW
  obtain ⟨p, q, hA0, hV, rfl, hfz, hnd⟩ := hW
  have hA : DataW.TrodAll enc Tryz.prog W 0 (fun _ => true) true Tryz.f3.params.toList args.toList ds p := hA0
  rw [Tryz.params3] at hA hval hsz
  obtain ⟨v0, vs0, d0, ds0, p0, q0, hargs, rfl, rfl, h0, r0⟩ := trodAll_cons hA
  obtain ⟨v1, vs1, d1, ds1, p1, q1, rfl, rfl, rfl, h1, r1⟩ := trodAll_cons r0
  obtain ⟨rfl, rfl, rfl⟩ := trodAll_nil r1
  obtain rfl : args = #[v0, v1] := by cases args; simp_all
  obtain ⟨rfl, rfl⟩ := trodVars_none hV
  have h0k := h0
  have h1k := h1
  clear hA0
  simp only [List.append_nil] at hW'
  have hlt0 : ∀ x ∈ p0, x.block < W.heap.size := fun x hx => hW'.lt x (by simp [hx])
  have hlt1 : ∀ x ∈ p1, x.block < W.heap.size := fun x hx => hW'.lt x (by simp [hx])
  have hin : ∀ x, (x ∈ d0.weights Tryz.prog 22 ∨ x ∈ d1.weights Tryz.prog 22) → x ≤ reachBytes := fun x hx => by
    have h4 := List.all_eq_true.1 hsz x (by
      simp only [List.cons_append, List.nil_append, DataW.weightsEach, List.mem_append]
      rcases hx with h | h
      · exact Or.inl h
      · exact Or.inr (Or.inl h))
    simpa using h4
  obtain ⟨a0, c0, l0, rfl, hk0, hm0, hb0⟩ := terms_in (hval 0 22 v0 rfl rfl) h0 (fun x hx => hin x (Or.inl hx))
  obtain ⟨a1, c1, l1, rfl, hk1, hm1, hb1⟩ := terms_in (hval 1 22 v1 rfl rfl) h1 (fun x hx => hin x (Or.inr hx))
  refine (knolaw_any W (g0_of_shape hsh) a0 a1 c0 c1 l0 l1 hk0 hk1 hm0 hm1 hb0 hb1).mono fun e W' ⟨he, hb⟩ => ?_
  subst he
  refine ⟨_, rfl, _, _, _, [], p0 ++ p1, [], hW', ?_, ?_, rfl, hb.frame _, fun h => by cases h⟩
  · exact trodAll_mk1 (shut_bool Tryz.underlying4 _)
  · have h9 := trodAll_cons_mk (Below.trod laidOut (by kernel_rfl) (of_decide_eq_true (by kernel_rfl)) h0k hb hlt0) (trodAll_cons_mk (Below.trod laidOut (by kernel_rfl) (of_decide_eq_true (by kernel_rfl)) h1k hb hlt1) trodAll_mk0)
    simp only [List.append_nil] at h9
    exact h9

theorem knows_holds : Rows.DeduceKnowsSaid :=
  OpenClaim.holds_of_wide 3 Tryz.f3 rfl rfl rfl rfl rfl rfl rfl ⟨rfl, rfl, rfl, rfl, rfl⟩ rfl rfl rfl rfl rfl (by kernel_rfl) Tryz.func3 (by kernel_rfl)
    (of_decide_eq_true (by kernel_rfl)) (by unfold Func.isWrapper; rw [if_neg (of_decide_eq_false (by kernel_rfl))]; exact ⟨rfl, rfl⟩)
    (fun os started H enc _ => kno_lifted os started H enc)
#print axioms knows_holds
end Go.Proofs.YtfnnhekjeobicaaGreat
