import Derived.Test.YtfnnhekjeobicaaGreatDoorHeAll
import Derived.Test.YtfnnhekjeobicaaGreatDoorMkAll
import Derived.Test.YtfnnhekjeobicaaGreatDoorFreshL
import Derived.Test.YtfnnhekjeobicaaGreatDoorR3Cll
import Derived.Test.YtfnnhekjeobicaaGreatDoorMoreAll
import Derived.Test.YtfnnhekjeobicaaGreatDoorCopAll
import Derived.Test.YtfnnhekjeobicaaGreatDoorHidesL
/- A mind that has heard a thousand names. -/
namespace Go.Proofs.YtfnnhekjeobicaaGreatDoor
open Go.RowKit Go.Maps Go.WideElems

/-- the name of a number -/
def nmb (i : Nat) : Bs := 110 :: (Lib.decDigits i ++ [59])
theorem nmb_inj {a b : Nat} (ha : a ≤ 9223372036854775807) (hb : b ≤ 9223372036854775807) (h : nmb a = nmb b) : a = b := by
  unfold nmb at h
  have h1 : Lib.decDigits a ++ [59] = Lib.decDigits b ++ [59] := by injection h
  have e1 := num_name a ha []
  have e2 := num_name b hb []
  rw [h1, e2] at e1
  injection e1 with e3
  exact (congrArg Prod.fst e3).symm
theorem nmb_res {i : Nat} (h : i ≤ 9223372036854775807) : nameRes (i : Int) = (nmb i, 0) := by
  obtain ⟨x, h1, _, _, _, h2⟩ := name_res (n := (i : Int)) (by omega) (by omega)
  rw [h1, h2]
  rfl
theorem nmb_len {i : Nat} (h : i ≤ 9223372036854775807) : (nmb i).length ≤ 22 := by
  have hl := dec_len i (by omega)
  unfold nmb
  show (110 :: (dec i ++ [59])).length ≤ 22
  simp
  omega
theorem nmb_deep {i : Nat} (h : i ≤ 9223372036854775807) : Tm.deep (nmb i) ≠ 0 := by
  have := Tm.is_deep (is_name i h) (by omega) (by have := nmb_len h; unfold nmb at this; omega)
  unfold nmb
  rw [this]
  decide
theorem nmb_kids (i : Nat) : Tm.kidsOf 63 (nmb i) = [] := by unfold nmb; rw [Tm.kidsOf]; simp
/-- the first i names, the last one first -/
def nms (i : Nat) : List Bs := ((List.range i).map nmb).reverse
theorem nms_succ (i : Nat) : nms (i + 1) = nmb i :: nms i := by
  unfold nms
  rw [List.range_succ, List.map_append, List.reverse_append]
  rfl
theorem nms_len (i : Nat) : (nms i).length = i := by unfold nms; simp
theorem nms_mem {n : Nat} {x : Bs} : x ∈ nms n ↔ ∃ i, i < n ∧ x = nmb i := by
  unfold nms
  simp only [List.mem_reverse, List.mem_map, List.mem_range]
  exact ⟨fun ⟨i, h, e⟩ => ⟨i, h, e.symm⟩, fun ⟨i, h, e⟩ => ⟨i, h, e.symm⟩⟩
theorem nms_nodup {n : Nat} (hn : n ≤ 100000) : (nms n).Nodup := by
  induction n with
  | zero => simp [nms]
  | succ n ih =>
    rw [nms_succ, List.nodup_cons]
    refine ⟨fun h => ?_, ih (by omega)⟩
    obtain ⟨i, hi, e⟩ := nms_mem.1 h
    have := nmb_inj (by omega) (by omega) e
    omega
/-- what may be noted -/
theorem nms_uni : ∃ U, Uni U ∧ (∀ t ∈ nms 1024, t ∈ U) ∧ [72, 110, 53, 59] ∈ U := by
  have hsum : ∀ n, n ≤ 1024 → ((nms n).map List.length).sum ≤ 22 * n := fun n hn => by
    induction n with
    | zero => simp [nms]
    | succ n ih =>
      rw [nms_succ, List.map_cons, List.sum_cons]
      have := ih (by omega)
      have := nmb_len (i := n) (by omega)
      omega
  obtain ⟨h1, h2⟩ := uni_of (l := [72, 110, 53, 59] :: nms 1024) (fun t ht => by
    rcases List.mem_cons.1 ht with rfl | ht
    · decide +kernel
    · obtain ⟨i, hi, rfl⟩ := nms_mem.1 ht
      exact nmb_deep (by omega)) (by
    rw [List.map_cons, List.sum_cons]
    have := hsum 1024 (by omega)
    simp only [List.length_cons, List.length_nil]
    omega)
  exact ⟨_, h1, fun t ht => h2 t (List.mem_cons_of_mem _ ht), h2 _ List.mem_cons_self⟩
/-- names are taken apart no further -/
theorem nms_held {n : Nat} {x : Bs} : Hd (fun x => x ∈ nms n) x ↔ x ∈ nms n := by
  refine ⟨fun h => ?_, .heard⟩
  induction h with
  | heard h => exact h
  | part _ h1 _ ih =>
    obtain ⟨i, _, e⟩ := nms_mem.1 ih
    rw [e] at h1
    cases h1
  | opened _ h1 _ _ ih =>
    obtain ⟨i, _, e⟩ := nms_mem.1 ih
    rw [e] at h1
    cases h1
theorem nms_fresh : ¬ Can (fun x => x ∈ nms 1024) (nmb 2000) := by
  intro h
  refine can_fresh (x := nmb 2000) rfl (fun t ht hs => ?_) h .here
  obtain ⟨i, hi, rfl⟩ := nms_mem.1 ht
  generalize hq : nmb i = q at hs
  cases hs with
  | here =>
    have := nmb_inj (by omega) (by omega) hq
    omega
  | kid hk _ =>
    rw [← hq, nmb_kids] at hk
    cases hk
theorem nms_hash : Can (fun x => x ∈ nms 1024) [72, 110, 53, 59] := by
  refine .whole (by decide +kernel) (by decide) (by decide) (fun k hk => ?_)
  have e : Tm.kidsOf 63 [72, 110, 53, 59] = [[110, 53, 59]] := by decide +kernel
  rw [e] at hk
  simp only [List.mem_singleton] at hk
  rw [hk]
  exact .heard (nms_mem.2 ⟨5, by omega, by decide +kernel⟩)
theorem nmb_2000 : nmb 2000 = [110, 50, 48, 48, 48, 59] := by decide +kernel
theorem nmb_5 : nmb 5 = [110, 53, 59] := by decide +kernel
/-- how many a mind heard -/
theorem heardN_all {l : List Bs} {N : NM} (h : Mind (fun x => x ∈ l) N) (hl : l.Nodup) {L : List (Bs × Note)} (hL : Over N L) : heardN L = l.length := by
  have hn : ((L.filter (·.2.heard)).map (·.1)).Nodup := (List.Sublist.map _ List.filter_sublist).nodup hL.nodup
  have hp : ((L.filter (·.2.heard)).map (·.1)).Perm l := (List.perm_ext_iff_of_nodup hn hl).2 (fun x => by
    constructor
    · intro hx
      obtain ⟨y, hy, rfl⟩ := List.mem_map.1 hx
      have hy' := List.mem_filter.1 hy
      refine (h.heard y.1).2 ?_
      rw [nget, (hL.mem y.1 y.2).1 hy'.1]
      exact hy'.2
    · intro hx
      have hh := (h.heard x).1 hx
      cases hq : N x with
      | none => rw [nget, hq] at hh; cases hh
      | some m =>
        rw [nget, hq] at hh
        exact List.mem_map.2 ⟨(x, m), List.mem_filter.2 ⟨(hL.mem x m).2 hq, hh⟩, rfl⟩)
  have := hp.length_eq
  simpa [heardN] using this
/-- a mind that has heard as many as may be hears no more -/
theorem learn_full {U : List Bs} (hU : Uni U) {w : World} {p : Nat} {o : Option Nat} {N : NM} (h : Mi U (nms 1024) w p o N) (ht : [72, 110, 53, 59] ∈ U) :
    Calls Tryz.prog 11 #[.pointer (some ⟨p, 0, none⟩), St [72, 110, 53, 59]] w fun e w' => e = .returned (.int .i64 3) ∧ Below w.heap.size w w' := by
  have hh : (nget N [72, 110, 53, 59]).heard = false := by
    cases hq : (nget N [72, 110, 53, 59]).heard with
    | false => rfl
    | true =>
      obtain ⟨i, _, e⟩ := nms_mem.1 ((h.mind.heard _).2 hq)
      have := congrArg List.head? e
      simp [nmb] at this
  cases o with
  | none =>
    have hN : N = fun _ => none := funext h.rm.om
    have h0 := (h.mind.heard (nmb 0)).1 (nms_mem.2 ⟨0, by omega, rfl⟩)
    rw [hN] at h0
    simp [nget] at h0
    cases h0
  | some b =>
    refine (learn_some hU w p b N ⟨h.rm.ptr, h.rm.om⟩ h.ok h.g0 _ ht hh).mono ?_
    rintro e w' ⟨L, hov, hres⟩
    have hf := heardN_all h.mind (nms_nodup (by omega)) hov
    rw [nms_len] at hf
    rcases hres with ⟨_, rfl, hb⟩ | ⟨h1, _⟩
    · exact ⟨rfl, hb⟩
    · exact absurd hf h1
/-- what is known and held in the end -/
theorem nms_knows {U : List Bs} {w : World} {p : Nat} {o : Option Nat} {N : NM} (h : Mi U (nms 1024) w p o N) : mkF N [110, 50, 48, 48, 48, 59] = false ∧ mkF N [72, 110, 53, 59] = true ∧ (nget N [110, 53, 59]).heard = true := by
  refine ⟨?_, (h.knows _).2 nms_hash, (h.mind.heard _).1 (nms_mem.2 ⟨5, by omega, nmb_5.symm⟩)⟩
  cases hq : mkF N [110, 50, 48, 48, 48, 59] with
  | false => rfl
  | true =>
    have := (h.knows _).1 hq
    rw [← nmb_2000] at this
    exact absurd this nms_fresh
theorem nms_count {K : List Bs} (h1 : K.Nodup) (h2 : ∀ x, x ∈ K ↔ Hd (fun x => x ∈ nms 1024) x) : (sorted K).length = 1024 := by
  rw [sorted_length]
  have hp : K.Perm (nms 1024) := (List.perm_ext_iff_of_nodup h1 (nms_nodup (by omega))).2 (fun x => (h2 x).trans nms_held)
  rw [hp.length_eq, nms_len]
end Go.Proofs.YtfnnhekjeobicaaGreatDoor

/- The law DeduceKnows. -/
namespace Go.Proofs.YtfnnhekjeobicaaGreatDoor
open Go.RowKit Go.Maps Go.WideElems

theorem rights_deep {l : List Bs} {x : Bs} (h : x ∈ rights l) : Tm.deep x ≠ 0 := by
  have := (List.mem_filter.1 h).2
  simpa using this
theorem hd_rev (l : List Bs) : (fun x => x ∈ l.reverse) = (fun x => x ∈ l) := funext fun _ => propext List.mem_reverse
/-- the row that is spoilt -/
structure Spo (B : Nat) (a : Option Addr) (n : Nat) (w : World) : Prop where
  row : 0 < n → ∃ g cs, a = some ⟨g, 0, none⟩ ∧ B ≤ g ∧ w.heap[g]? = some (.cells cs 29 (0, 0)) ∧ n ≤ cs.size
theorem Spo.of {w : World} {B C : Nat} {a : Option Addr} {c : Nat} {l : List Bs} (h : w.ownsRow C 29 1 (.slice a l.length c) l.length (l.map St)) (hB : B ≤ C) : Spo B a l.length w := ⟨fun hl => by
  rcases h.2 with ⟨_, h2⟩ | ⟨g, cap, cur, hv, hb, hg, hc1, hc2, hc3, hc4⟩
  · omega
  · cases hv
    exact ⟨g, cur, rfl, by omega, hg, by omega⟩⟩
theorem Spo.below {B : Nat} {a : Option Addr} {n : Nat} {w w' : World} (h : Spo B a n w) (hb : Below w.heap.size w w') : Spo B a n w' := ⟨fun hn => by
  obtain ⟨g, cs, e, h1, h2, h3⟩ := h.row hn
  exact ⟨g, cs, e, h1, (hb.block g (lt_of_block h2)).trans h2, h3⟩⟩
set_option maxRecDepth 100000 in
set_option maxHeartbeats 16000000 in
theorem kno_main (w : World) (hG : G0 w) (aa ak : Option Addr) (ca ck : Nat) (a ask : List Bs) (hka : Texts w (.slice aa a.length ca) a) (hkk : Texts w (.slice ak ask.length ck) ask) (hsa : smallB a = true) (hsk : smallB ask = true) (hla : ∀ i (h : i < a.length), a[i].length ≤ 140737488355328) (hlk : ∀ i (h : i < ask.length), ask[i].length ≤ 140737488355328) :
    Calls Tryz.prog 19 #[.slice aa a.length ca, .slice ak ask.length ck] w fun e w' => e = .returned (.bool true) ∧ Below w.heap.size w w' := by
  have HAS := hid (smallB_of hsa)
  have HKS := hid (smallB_of hsk)
  obtain ⟨U, hU, hUa, _, _⟩ := uni_three a a a HAS.out.2 HAS.out.2 HAS.out.2
  have HS1 := hid (small_any w aa ca a hka (by have := HAS.out.1; unfold maxLen; omega) hla)
  have HS4 := hid (small_any w ak ck ask hkk (by have := HKS.out.1; unfold maxLen; omega) hlk)
  rw [hsa] at HS1
  rw [hsk] at HS4
  have HMD := hid (mind_ml hU w hG aa ca a hka HAS.out.1 hUa)
  have HUN := hid hU
  have HWK := hid (fun W (hb : Below w.heap.size w W) => works_any W (hG.below hb))
  have HKC : Hid (∀ i (h : i < ask.length), ∃ g o, ak = some ⟨g, o, none⟩ ∧ ∀ W, Below w.heap.size w W → W.cell? ⟨g, o + i, none⟩ = some (St ask[i])) := hid (fun i h => by
    obtain ⟨ao', cap', he, ht⟩ := hkk
    cases he
    obtain ⟨g, o, e, hg, hc⟩ := ht (fun e => by rw [e] at h; simp at h)
    exact ⟨g, o, e, fun W hb => by rw [← hc i h]; exact World.cell?_of_block (hb.block g hg)⟩)
  have HKL : Hid (∀ i (h : i < ask.length), ask[i].length ≤ 700) := hid (fun i h => by have h1 := lens_mem (List.getElem_mem h); have h2 := HKS.out.2; omega)
  have HXL : Hid ((rights a).length ≤ 1000) := hid (Nat.le_trans (List.length_filter_le _ _) (by have := HAS.out.1; omega))
  have HXS : Hid (lens (rights a) ≤ 100000) := hid (by have := lens_rights a; have := HAS.out.2; omega)
  have HXD : Hid (∀ x ∈ rights a, Tm.deep x ≠ 0) := hid (fun x h => rights_deep h)
  clear hU hUa hG hka hkk hsa hsk hla hlk
  obtain ⟨nk, hnk⟩ : ∃ n, n = ask.length := ⟨_, rfl⟩
  have HNK := hid hnk
  have hkb : nk ≤ 40 := by have := HKS.out.1; omega
  rw [← hnk] at HS4 ⊢
  clear hnk HAS HKS
  generalize rights a = X0 at HMD HXL HXS HXD
  go_enter Tryz.func19, Tryz.ntmps19
  go_wp2_with fail
  refine HS1.out.mono ?_
  rintro e w1 ⟨rfl, hw1⟩
  obtain rfl := hw1.symm
  go_wp2_with fail
  refine HS4.out.mono ?_
  rintro e w1 ⟨rfl, hw1⟩
  obtain rfl := hw1.symm
  clear HS1 HS4
  go_wp2_with fail
  refine HMD.out.mono ?_
  rintro e w2 ⟨v, rfl, hml⟩
  have HRX := hid hml.row
  have HB2 := hid hml.bel
  obtain ⟨o, N, hmi, ho⟩ := hml.mi
  have HM2 := hid hmi
  clear hml hmi ho HMD
  obtain ⟨p, hp⟩ : ∃ p, p = w.heap.size := ⟨_, rfl⟩
  rw [← hp] at HM2 ⊢
  clear hp
  obtain ⟨av, kv, hv⟩ := own_shape HRX.out
  subst hv
  have HSM : Hid (∀ x, x ∈ X0.reverse ↔ x ∈ X0) := hid (fun x => List.mem_reverse)
  obtain ⟨V, hV, hVl, hVr, hHV, _⟩ := uni_within HXD.out HXS.out []
  have HDH := hid (fun W (hb : Below w2.heap.size w2 W) => dheld_any W av kv X0 V (texts_below (own_texts HRX.out) hb) HXL.out HXD.out hV hVl hVr hHV (fun M hM => hM.full HM2.out HSM.out))
  have HKX := hid (fun W t (hb : Below w2.heap.size w2 W) => dknows_any W av kv X0 t (texts_below (own_texts HRX.out) hb) HXL.out HXD.out HXS.out HM2.out HSM.out)
  have HPX := hid (fun W t (hb : Below w2.heap.size w2 W) (ht : t.length ≤ 100000) => knows_any W p o N t (HM2.out.below hb).rm ht)
  have HHD := hid (fun W (hb : Below w2.heap.size w2 W) => held_mi HUN.out (HM2.out.below hb))
  rw [hd_rev] at HHD
  clear hV hVl hVr hHV HRX HM2 HSM HXL HXS HXD
  generalize X0.length = qx at HDH HKX ⊢
  go_wp2_with fail
  go_loopg [7] nk (fun gg s7 wr => ∃ i : Nat, i ≤ nk ∧ gg = nk - i ∧ s7 = .int .i64 (i : Int) ∧ Below w2.heap.size w2 wr)
  case atStart => exact ⟨0, by omega, by omega, rfl, Below.refl _ _⟩
  case round =>
    obtain ⟨j, hj, rfl, rfl, hbel⟩ := hrel
    have HBE := hid hbel
    clear hbel
    by_cases hjl : j < nk
    · have hj1 : (j : Int) < (nk : Int) := by omega
      have hj0 : (0 : Int) ≤ (j : Int) := by omega
      have hjk : j < ask.length := by rw [← HNK.out]; exact hjl
      obtain ⟨g, o', hao, hce⟩ := HKC.out j hjk
      subst hao
      have HTL : Hid (ask[j].length ≤ 100000) := hid (by have := HKL.out j hjk; omega)
      have HS : Hid (∀ W, Below w2.heap.size w2 W → W.cell? ⟨g, o' + j, none⟩ = some (St ask[j])) := hid (fun W hb => hce W (two_below HB2.out hb))
      clear hce
      generalize ask[j] = t at HS HTL
      have K1 := hid (fun W (hb : Below w2.heap.size w2 W) => HPX.out W t hb HTL.out)
      have K2 := hid (fun W (hb : Below w2.heap.size w2 W) => HKX.out W t hb)
      generalize mkF N t = b1 at K1 K2
      have S0 := hid (HS.out wr HBE.out)
      have hc1 := S0.out
      cases b1
      · go_wp2_with fail
        go_region_held3 (fun wx => wx.cell? ⟨g, o' + j, none⟩ = some (St t)) (first | exact SX.out | exact S0.out) (first | (go_at_call 9; refine (K1.out _ (by first | exact HBX.out | exact HBE.out.drew)).mono ?_; rintro e wX ⟨rfl, hbX⟩; have HBX := hid (two_below (by first | exact HBX.out | exact HBE.out.drew) hbX); have SX := hid (HS.out _ HBX.out); clear hbX) | (go_at_call 46; refine (K2.out _ (by first | exact HBX.out | exact HBE.out.drew)).mono ?_; rintro e wX ⟨rfl, hbX⟩; have HBX := hid (two_below (by first | exact HBX.out | exact HBE.out.drew) hbX); have SX := hid (HS.out _ HBX.out); clear hbX))
        go_wp2_with fail
        go_roundg (nk - (j + 1))
        case measure => omega
        case rel => exact ⟨j + 1, by omega, rfl, by go_num, HBX.out⟩
      · go_wp2_with fail
        go_region_held3 (fun wx => wx.cell? ⟨g, o' + j, none⟩ = some (St t)) (first | exact SX.out | exact S0.out) (first | (go_at_call 9; refine (K1.out _ (by first | exact HBX.out | exact HBE.out.drew)).mono ?_; rintro e wX ⟨rfl, hbX⟩; have HBX := hid (two_below (by first | exact HBX.out | exact HBE.out.drew) hbX); have SX := hid (HS.out _ HBX.out); clear hbX) | (go_at_call 46; refine (K2.out _ (by first | exact HBX.out | exact HBE.out.drew)).mono ?_; rintro e wX ⟨rfl, hbX⟩; have HBX := hid (two_below (by first | exact HBX.out | exact HBE.out.drew) hbX); have SX := hid (HS.out _ HBX.out); clear hbX))
        go_wp2_with fail
        go_roundg (nk - (j + 1))
        case measure => omega
        case rel => exact ⟨j + 1, by omega, rfl, by go_num, HBX.out⟩
    · have hj1 : ¬ (j : Int) < (nk : Int) := by omega
      obtain ⟨w3, rfl⟩ : ∃ w3, w3 = wr := ⟨_, rfl⟩
      clear hj hjl
      go_wp2_with fail
      refine (HHD.out w3 HBE.out).mono ?_
      rintro e w4 ⟨v8, K, rfl, hnd, hKl, hKm, hown, hb4⟩
      have HND := hid hnd
      have HKM := hid hKm
      have hAl : (sorted K).length ≤ 100000000 := by rw [sorted_length]; omega
      obtain ⟨a8, c8, rfl⟩ := own_shape hown
      have HOW := hid hown
      have HB4 := hid (two_below HBE.out hb4)
      clear hnd hKm hown hb4 hKl
      have HSO : Hid (∀ l out : List Bs, l.Nodup → (∀ x, x ∈ l ↔ Hd (fun x => x ∈ X0) x) → out.Perm l → out.Pairwise (· ≤ ·) → out = sorted K) := hid (fun l out h1 h2 h3 h4 => sorted_of h1 HND.out (fun x => (h2 x).trans (HKM.out x).symm) h3 h4)
      generalize sorted K = A at HOW HSO hAl
      have HAL := hid hAl
      obtain ⟨n8, hn8⟩ : ∃ n, n = A.length := ⟨_, rfl⟩
      have HN8 := hid hn8
      rw [← hn8] at hAl ⊢
      clear hn8
      go_wp2_with fail
      refine (HDH.out w4 HB4.out).mono ?_
      rintro e w5 ⟨a5, c5, l5, out, rfl, htx, hnd5, hm5, hpm, hso, hb5⟩
      have he := HSO.out l5 out hnd5 hm5 hpm hso
      subst he
      have HTX := hid htx
      have HB5 := hid (two_below HB4.out hb5)
      have HSA := hid (sameT_any w5 a8 a5 c8 c5 out out (texts_below (own_texts HOW.out) hb5) htx HAL.out HAL.out)
      have HSP := hid ((Spo.of (B := w2.heap.size) HOW.out HBE.out.size).below hb5)
      rw [decide_eq_true rfl] at HSA
      rw [← HN8.out] at HSA HSP ⊢
      clear htx hnd5 hm5 hpm hso hb5 HND HKM HTX
      go_wp2_with fail
      refine HSA.out.mono ?_
      rintro e w6 ⟨rfl, hb6⟩
      have HB6 := hid (two_below HB5.out hb6)
      have HS6 := hid (HSP.out.below hb6)
      clear hb6 HSA HSP
      go_wp2_with fail
      go_loopg [10] n8 (fun gg s10 wr => ∃ i : Nat, i ≤ n8 ∧ gg = n8 - i ∧ s10 = .int .i64 (i : Int) ∧ Below w2.heap.size w2 wr ∧ Spo w2.heap.size a8 n8 wr)
      case atStart => exact ⟨0, by omega, by omega, rfl, HB6.out, HS6.out⟩
      case round =>
        clear HB6 HS6
        obtain ⟨i, hi, rfl, rfl, hbel, hsp⟩ := hrel
        have HBF := hid hbel
        have HSP := hid hsp
        clear hbel hsp
        by_cases hil : i < n8
        · have hi1 : (i : Int) < (n8 : Int) := by omega
          obtain ⟨g, cs, hao, hg, hh, hcs⟩ := HSP.out.row (by omega)
          subst hao
          have hc : wr.cell? ⟨g, i, none⟩ = some cs[i] := by rw [cell_of_heap hh, Array.getElem?_eq_getElem (by omega)]
          have hf : wr.frozen? ⟨g, i, none⟩ = false := frozen_of_heap hh i
          have HBS : Hid (∀ v, Below w2.heap.size w2 (wr.setCell ⟨g, i, none⟩ v)) := hid (fun v => below_setCell HBF.out hg)
          have HSS : Hid (∀ v, Spo w2.heap.size (some ⟨g, 0, none⟩) n8 (wr.setCell ⟨g, i, none⟩ v)) := hid (fun v => ⟨fun _ => ⟨g, _, rfl, hg, heap_setCell_same hh i v, by simpa using hcs⟩⟩)
          generalize cs[i] = u at hc
          clear hg hh hcs
          go_wp2_with fail
          go_roundg (n8 - (i + 1))
          case measure => omega
          case rel => exact ⟨i + 1, by omega, rfl, by go_num, HBS.out _, HSS.out _⟩
        · have hi1 : ¬ (i : Int) < (n8 : Int) := by omega
          obtain ⟨w7, rfl⟩ : ∃ w7, w7 = wr := ⟨_, rfl⟩
          clear hi hil
          go_wp2_with fail
          refine (HHD.out w7 HBF.out).mono ?_
          rintro e w8 ⟨v9, K2, rfl, hnd, hKl, hKm, hown, hb8⟩
          have HND := hid hnd
          have HKM := hid hKm
          have hAl2 : (sorted K2).length ≤ 100000000 := by rw [sorted_length]; omega
          have HAL2 := hid hAl2
          obtain ⟨a9, c9, rfl⟩ := own_shape hown
          have HOW2 := hid hown
          have HB8 := hid (two_below HBF.out hb8)
          clear hnd hKm hown hb8 hKl hAl2
          have HSO2 : Hid (∀ l out : List Bs, l.Nodup → (∀ x, x ∈ l ↔ Hd (fun x => x ∈ X0) x) → out.Perm l → out.Pairwise (· ≤ ·) → out = sorted K2) := hid (fun l out h1 h2 h3 h4 => sorted_of h1 HND.out (fun x => (h2 x).trans (HKM.out x).symm) h3 h4)
          generalize sorted K2 = A2 at HOW2 HSO2 HAL2
          obtain ⟨n9, hn9⟩ : ∃ n, n = A2.length := ⟨_, rfl⟩
          have HN9 := hid hn9
          rw [← hn9]
          clear hn9
          go_wp2_with fail
          refine (HDH.out w8 HB8.out).mono ?_
          rintro e w9 ⟨a5, c5, l5, out, rfl, htx, hnd5, hm5, hpm, hso, hb9⟩
          have he := HSO2.out l5 out hnd5 hm5 hpm hso
          subst he
          have HB9 := hid (two_below HB8.out hb9)
          have HSA := hid (sameT_any w9 a9 a5 c9 c5 out out (texts_below (own_texts HOW2.out) hb9) htx HAL2.out HAL2.out)
          rw [decide_eq_true rfl] at HSA
          rw [← HN9.out] at HSA ⊢
          clear htx hnd5 hm5 hpm hso hb9 HND HKM
          go_wp2_with fail
          refine HSA.out.mono ?_
          rintro e w10 ⟨rfl, hb10⟩
          have HB10 := hid (two_below HB2.out (two_below HB9.out hb10))
          clear hb10 HSA
          have HWW := hid (HWK.out w10 HB10.out)
          go_wp2_with (first | (go_at_call 13; refine HWW.out.mono ?_; rintro e w11 ⟨rfl, hb11⟩; have HB11 := hid (two_below HB10.out hb11); clear hb11))
          go_ret
          exact ⟨rfl, HB11.out⟩
end Go.Proofs.YtfnnhekjeobicaaGreatDoor

/- The law DeduceKnows, for lists of any length. -/
namespace Go.Proofs.YtfnnhekjeobicaaGreatDoor
open Go.RowKit Go.Maps Go.WideElems

set_option maxRecDepth 100000 in
set_option maxHeartbeats 1000000 in
theorem knolaw_any (w : World) (hG : G0 w) (aa ab : Option Addr) (ca cb : Nat) (a b : List Bs) (hka : Texts w (.slice aa a.length ca) a) (hkb : Texts w (.slice ab b.length cb) b) (hma : a.length ≤ maxLen) (hmb : b.length ≤ maxLen) (hla : ∀ i (h : i < a.length), a[i].length ≤ 140737488355328) (hlb : ∀ i (h : i < b.length), b[i].length ≤ 140737488355328) :
    Calls Tryz.prog 19 #[.slice aa a.length ca, .slice ab b.length cb] w fun e w' => e = .returned (.bool true) ∧ Below w.heap.size w w' := by
  have HS1 := hid (small_any w aa ca a hka hma hla)
  have HS2 := hid (small_any w ab cb b hkb hmb hlb)
  cases h1 : smallB a with
  | false =>
    rw [h1] at HS1
    clear hG hka hkb hma hmb hla hlb h1 HS2
    go_enter Tryz.func19, Tryz.ntmps19
    go_wp2_with fail
    refine HS1.out.mono ?_
    rintro e w1 ⟨rfl, hw1⟩
    obtain rfl := hw1.symm
    go_wp2_with fail
    go_ret
    exact ⟨rfl, Below.refl _ _⟩
  | true =>
    cases h2 : smallB b with
    | false =>
      rw [h1] at HS1
      rw [h2] at HS2
      clear hG hka hkb hma hmb hla hlb h1 h2
      go_enter Tryz.func19, Tryz.ntmps19
      go_wp2_with fail
      refine HS1.out.mono ?_
      rintro e w1 ⟨rfl, hw1⟩
      obtain rfl := hw1.symm
      go_wp2_with fail
      refine HS2.out.mono ?_
      rintro e w1 ⟨rfl, hw1⟩
      obtain rfl := hw1.symm
      go_wp2_with fail
      go_ret
      exact ⟨rfl, Below.refl _ _⟩
    | true => exact kno_main w hG aa ab ca cb a b hka hkb h1 h2 hla hlb
end Go.Proofs.YtfnnhekjeobicaaGreatDoor

/- The law DeduceKnown. -/
namespace Go.Proofs.YtfnnhekjeobicaaGreatDoor
open Go.RowKit Go.Maps Go.WideElems

/-- the terms that are asked for -/
def askL : List Bs := [[110, 49, 59], [110, 50, 59], [110, 51, 59], [116, 49, 58, 97], [72, 116, 49, 58, 97], [84, 48, 58], [80, 116, 49, 58, 97], [80, 110, 49, 59], [80, 110, 50, 59], [83, 110, 50, 59, 116, 48, 58], [84, 50, 58, 110, 49, 59, 110, 50, 59], [66, 110, 49, 59, 110, 50, 59], [88, 110, 49, 59, 110, 50, 59], [88, 110, 49, 59, 110, 49, 59], [87, 80, 110, 49, 59, 80, 110, 50, 59], [86, 110, 49, 59, 110, 50, 59], [75, 110, 49, 59, 116, 48, 58], [76, 80, 110, 49, 59, 116, 48, 58], [76, 80, 110, 49, 59, 110, 50, 59], [68, 110, 49, 59, 110, 50, 59], [80, 68, 110, 49, 59, 110, 50, 59], [87, 87, 80, 110, 49, 59, 80, 110, 50, 59, 80, 110, 51, 59], [80, 72, 110, 49, 59], [], [110], [88, 86, 110, 49, 59, 110, 50, 59, 110, 51, 59], [88, 110, 51, 59, 116, 48, 58]]
/-- the lists that are heard -/
def hrdL : List (List Bs) := [[], [[110, 49, 59], [66, 110, 49, 59, 110, 50, 59]], [[66, 110, 49, 59, 110, 50, 59], [80, 110, 49, 59]], [[110, 49, 59], [80, 110, 50, 59]], [[66, 110, 49, 59, 110, 50, 59], [66, 110, 50, 59, 110, 49, 59], [66, 72, 116, 48, 58, 110, 50, 59]], [[86, 110, 49, 59, 110, 50, 59]], [[86, 110, 49, 59, 110, 50, 59], [80, 110, 51, 59]], [[110, 50, 59], [80, 110, 49, 59]], [[84, 50, 58, 110, 49, 59, 84, 49, 58, 110, 50, 59]], [[66, 84, 49, 58, 110, 49, 59, 110, 50, 59], [110, 49, 59]], [[66, 72, 110, 49, 59, 110, 50, 59], [72, 110, 49, 59]], [[75, 110, 49, 59, 116, 48, 58]], [[80, 110, 49, 59], [80, 110, 50, 59], [80, 110, 51, 59]], [[83, 110, 49, 59, 110, 50, 59]], [[68, 110, 49, 59, 110, 50, 59]], [[88, 110, 49, 59, 110, 50, 59]], [[66, 88, 110, 49, 59, 110, 50, 59, 110, 51, 59], [110, 49, 59], [80, 110, 50, 59]], [[110, 51, 59], [87, 80, 110, 49, 59, 80, 110, 50, 59]], [[110, 49, 59], [110, 50, 59], [110, 51, 59]], [[66, 116, 48, 58, 110, 49, 59], [110]], [[76, 80, 110, 49, 59, 110, 50, 59]]]
/-- blocks laid one behind the other -/
def allocAll (w : World) : List Obj → World
  | [] => w
  | o :: l => allocAll (w.alloc o) l
theorem allocAll_below (w : World) : ∀ l, Below w.heap.size w (allocAll w l)
  | [] => Below.refl _ _
  | o :: l => (below_alloc_self' w o).trans ((allocAll_below (w.alloc o) l).mono (by simp))
theorem allocAll_size (w : World) : ∀ l, (allocAll w l).heap.size = w.heap.size + l.length
  | [] => by simp [allocAll]
  | o :: l => by
    rw [allocAll, allocAll_size (w.alloc o) l]
    simp
    omega
theorem allocAll_get (w : World) : ∀ (l : List Obj) (i : Nat) (_ : i < l.length), (allocAll w l).heap[w.heap.size + i]? = l[i]?
  | o :: l, 0, _ => by
    have h := (allocAll_below (w.alloc o) l).block w.heap.size (by simp)
    rw [allocAll, Nat.add_zero, h]
    exact (heap_alloc_new w o).trans rfl
  | o :: l, i + 1, hi => by
    have h := allocAll_get (w.alloc o) l i (by simpa using hi)
    rw [allocAll, List.getElem?_cons_succ, ← h]
    congr 1
    simp
    omega

def blks (b : Nat) : List Obj := [.cells #[St [110, 49, 59], St [110, 50, 59], St [110, 51, 59], St [116, 49, 58, 97], St [72, 116, 49, 58, 97], St [84, 48, 58], St [80, 116, 49, 58, 97], St [80, 110, 49, 59], St [80, 110, 50, 59], St [83, 110, 50, 59, 116, 48, 58], St [84, 50, 58, 110, 49, 59, 110, 50, 59], St [66, 110, 49, 59, 110, 50, 59], St [88, 110, 49, 59, 110, 50, 59], St [88, 110, 49, 59, 110, 49, 59], St [87, 80, 110, 49, 59, 80, 110, 50, 59], St [86, 110, 49, 59, 110, 50, 59], St [75, 110, 49, 59, 116, 48, 58], St [76, 80, 110, 49, 59, 116, 48, 58], St [76, 80, 110, 49, 59, 110, 50, 59], St [68, 110, 49, 59, 110, 50, 59], St [80, 68, 110, 49, 59, 110, 50, 59], St [87, 87, 80, 110, 49, 59, 80, 110, 50, 59, 80, 110, 51, 59], St [80, 72, 110, 49, 59], St [], St [110], St [88, 86, 110, 49, 59, 110, 50, 59, 110, 51, 59], St [88, 110, 51, 59, 116, 48, 58]] 29,
  .cells #[St [110, 49, 59], St [66, 110, 49, 59, 110, 50, 59]] 29,
  .cells #[St [66, 110, 49, 59, 110, 50, 59], St [80, 110, 49, 59]] 29,
  .cells #[St [110, 49, 59], St [80, 110, 50, 59]] 29,
  .cells #[St [66, 110, 49, 59, 110, 50, 59], St [66, 110, 50, 59, 110, 49, 59], St [66, 72, 116, 48, 58, 110, 50, 59]] 29,
  .cells #[St [86, 110, 49, 59, 110, 50, 59]] 29,
  .cells #[St [86, 110, 49, 59, 110, 50, 59], St [80, 110, 51, 59]] 29,
  .cells #[St [110, 50, 59], St [80, 110, 49, 59]] 29,
  .cells #[St [84, 50, 58, 110, 49, 59, 84, 49, 58, 110, 50, 59]] 29,
  .cells #[St [66, 84, 49, 58, 110, 49, 59, 110, 50, 59], St [110, 49, 59]] 29,
  .cells #[St [66, 72, 110, 49, 59, 110, 50, 59], St [72, 110, 49, 59]] 29,
  .cells #[St [75, 110, 49, 59, 116, 48, 58]] 29,
  .cells #[St [80, 110, 49, 59], St [80, 110, 50, 59], St [80, 110, 51, 59]] 29,
  .cells #[St [83, 110, 49, 59, 110, 50, 59]] 29,
  .cells #[St [68, 110, 49, 59, 110, 50, 59]] 29,
  .cells #[St [88, 110, 49, 59, 110, 50, 59]] 29,
  .cells #[St [66, 88, 110, 49, 59, 110, 50, 59, 110, 51, 59], St [110, 49, 59], St [80, 110, 50, 59]] 29,
  .cells #[St [110, 51, 59], St [87, 80, 110, 49, 59, 80, 110, 50, 59]] 29,
  .cells #[St [110, 49, 59], St [110, 50, 59], St [110, 51, 59]] 29,
  .cells #[St [66, 116, 48, 58, 110, 49, 59], St [110]] 29,
  .cells #[St [76, 80, 110, 49, 59, 110, 50, 59]] 29,
  .cells #[.slice none 0 0, .slice (some ⟨b + 1, 0, none⟩) 2 2, .slice (some ⟨b + 2, 0, none⟩) 2 2, .slice (some ⟨b + 3, 0, none⟩) 2 2, .slice (some ⟨b + 4, 0, none⟩) 3 3, .slice (some ⟨b + 5, 0, none⟩) 1 1, .slice (some ⟨b + 6, 0, none⟩) 2 2, .slice (some ⟨b + 7, 0, none⟩) 2 2, .slice (some ⟨b + 8, 0, none⟩) 1 1, .slice (some ⟨b + 9, 0, none⟩) 2 2, .slice (some ⟨b + 10, 0, none⟩) 2 2, .slice (some ⟨b + 11, 0, none⟩) 1 1, .slice (some ⟨b + 12, 0, none⟩) 3 3, .slice (some ⟨b + 13, 0, none⟩) 1 1, .slice (some ⟨b + 14, 0, none⟩) 1 1, .slice (some ⟨b + 15, 0, none⟩) 1 1, .slice (some ⟨b + 16, 0, none⟩) 3 3, .slice (some ⟨b + 17, 0, none⟩) 2 2, .slice (some ⟨b + 18, 0, none⟩) 3 3, .slice (some ⟨b + 19, 0, none⟩) 2 2, .slice (some ⟨b + 20, 0, none⟩) 1 1] 22]
theorem blks_len (b : Nat) : (blks b).length = 22 := rfl
/-- a block of texts holds them -/
theorem texts_blk {w : World} {g : Nat} {l : List Bs} (h : w.heap[g]? = some (.cells (l.map St).toArray 29 (0, 0))) (n c : Nat) (hn : n = l.length) : Texts w (.slice (some ⟨g, 0, none⟩) n c) l := by
  subst hn
  refine ⟨_, c, rfl, fun _ => ⟨g, 0, rfl, lt_of_block h, fun i hi => ?_⟩⟩
  rw [cell_of_heap h]
  simp [hi]
/-- what lies there when the lists are gone over -/
structure Klay (w W : World) : Prop where
  bel : Below w.heap.size w W
  ask : Texts W (.slice (some ⟨w.heap.size, 0, none⟩) 27 27) askL
  hrd : ∀ i (h : i < hrdL.length), ∃ a c, W.cell? ⟨w.heap.size + 21, i, none⟩ = some (.slice a hrdL[i].length c) ∧ Texts W (.slice a hrdL[i].length c) hrdL[i]
theorem Klay.below {w W W' : World} (h : Klay w W) (hb : Below W.heap.size W W') (hz : w.heap.size + 21 < W.heap.size) : Klay w W' :=
  ⟨below_two h.bel (below_low hb h.bel.size), texts_below h.ask hb, fun i hi => by
    obtain ⟨a, c, h1, h2⟩ := h.hrd i hi
    exact ⟨a, c, (hb.cell (p := ⟨w.heap.size + 21, i, none⟩) hz).trans h1, texts_below h2 hb⟩⟩

theorem klay_of (w : World) : Klay w (allocAll w (blks w.heap.size)) := by
  have hg := fun i (h : i < 22) => allocAll_get w (blks w.heap.size) i h
  refine ⟨allocAll_below _ _, texts_blk ((hg 0 (by omega)).trans rfl) 27 27 rfl, fun i hi => ?_⟩
  have h21 : (allocAll w (blks w.heap.size)).heap[w.heap.size + 21]? = some (.cells #[.slice none 0 0, .slice (some ⟨w.heap.size + 1, 0, none⟩) 2 2, .slice (some ⟨w.heap.size + 2, 0, none⟩) 2 2, .slice (some ⟨w.heap.size + 3, 0, none⟩) 2 2, .slice (some ⟨w.heap.size + 4, 0, none⟩) 3 3, .slice (some ⟨w.heap.size + 5, 0, none⟩) 1 1, .slice (some ⟨w.heap.size + 6, 0, none⟩) 2 2, .slice (some ⟨w.heap.size + 7, 0, none⟩) 2 2, .slice (some ⟨w.heap.size + 8, 0, none⟩) 1 1, .slice (some ⟨w.heap.size + 9, 0, none⟩) 2 2, .slice (some ⟨w.heap.size + 10, 0, none⟩) 2 2, .slice (some ⟨w.heap.size + 11, 0, none⟩) 1 1, .slice (some ⟨w.heap.size + 12, 0, none⟩) 3 3, .slice (some ⟨w.heap.size + 13, 0, none⟩) 1 1, .slice (some ⟨w.heap.size + 14, 0, none⟩) 1 1, .slice (some ⟨w.heap.size + 15, 0, none⟩) 1 1, .slice (some ⟨w.heap.size + 16, 0, none⟩) 3 3, .slice (some ⟨w.heap.size + 17, 0, none⟩) 2 2, .slice (some ⟨w.heap.size + 18, 0, none⟩) 3 3, .slice (some ⟨w.heap.size + 19, 0, none⟩) 2 2, .slice (some ⟨w.heap.size + 20, 0, none⟩) 1 1] 22 (0, 0)) := (hg 21 (by omega)).trans rfl
  match i, hi with
  | 0, _ => exact ⟨none, 0, (cell_of_heap h21 0).trans rfl, texts_nil _⟩
  | 1, _ => exact ⟨some ⟨w.heap.size + 1, 0, none⟩, 2, (cell_of_heap h21 1).trans rfl, texts_blk (l := [[110, 49, 59], [66, 110, 49, 59, 110, 50, 59]]) ((hg 1 (by omega)).trans rfl) _ _ rfl⟩
  | 2, _ => exact ⟨some ⟨w.heap.size + 2, 0, none⟩, 2, (cell_of_heap h21 2).trans rfl, texts_blk (l := [[66, 110, 49, 59, 110, 50, 59], [80, 110, 49, 59]]) ((hg 2 (by omega)).trans rfl) _ _ rfl⟩
  | 3, _ => exact ⟨some ⟨w.heap.size + 3, 0, none⟩, 2, (cell_of_heap h21 3).trans rfl, texts_blk (l := [[110, 49, 59], [80, 110, 50, 59]]) ((hg 3 (by omega)).trans rfl) _ _ rfl⟩
  | 4, _ => exact ⟨some ⟨w.heap.size + 4, 0, none⟩, 3, (cell_of_heap h21 4).trans rfl, texts_blk (l := [[66, 110, 49, 59, 110, 50, 59], [66, 110, 50, 59, 110, 49, 59], [66, 72, 116, 48, 58, 110, 50, 59]]) ((hg 4 (by omega)).trans rfl) _ _ rfl⟩
  | 5, _ => exact ⟨some ⟨w.heap.size + 5, 0, none⟩, 1, (cell_of_heap h21 5).trans rfl, texts_blk (l := [[86, 110, 49, 59, 110, 50, 59]]) ((hg 5 (by omega)).trans rfl) _ _ rfl⟩
  | 6, _ => exact ⟨some ⟨w.heap.size + 6, 0, none⟩, 2, (cell_of_heap h21 6).trans rfl, texts_blk (l := [[86, 110, 49, 59, 110, 50, 59], [80, 110, 51, 59]]) ((hg 6 (by omega)).trans rfl) _ _ rfl⟩
  | 7, _ => exact ⟨some ⟨w.heap.size + 7, 0, none⟩, 2, (cell_of_heap h21 7).trans rfl, texts_blk (l := [[110, 50, 59], [80, 110, 49, 59]]) ((hg 7 (by omega)).trans rfl) _ _ rfl⟩
  | 8, _ => exact ⟨some ⟨w.heap.size + 8, 0, none⟩, 1, (cell_of_heap h21 8).trans rfl, texts_blk (l := [[84, 50, 58, 110, 49, 59, 84, 49, 58, 110, 50, 59]]) ((hg 8 (by omega)).trans rfl) _ _ rfl⟩
  | 9, _ => exact ⟨some ⟨w.heap.size + 9, 0, none⟩, 2, (cell_of_heap h21 9).trans rfl, texts_blk (l := [[66, 84, 49, 58, 110, 49, 59, 110, 50, 59], [110, 49, 59]]) ((hg 9 (by omega)).trans rfl) _ _ rfl⟩
  | 10, _ => exact ⟨some ⟨w.heap.size + 10, 0, none⟩, 2, (cell_of_heap h21 10).trans rfl, texts_blk (l := [[66, 72, 110, 49, 59, 110, 50, 59], [72, 110, 49, 59]]) ((hg 10 (by omega)).trans rfl) _ _ rfl⟩
  | 11, _ => exact ⟨some ⟨w.heap.size + 11, 0, none⟩, 1, (cell_of_heap h21 11).trans rfl, texts_blk (l := [[75, 110, 49, 59, 116, 48, 58]]) ((hg 11 (by omega)).trans rfl) _ _ rfl⟩
  | 12, _ => exact ⟨some ⟨w.heap.size + 12, 0, none⟩, 3, (cell_of_heap h21 12).trans rfl, texts_blk (l := [[80, 110, 49, 59], [80, 110, 50, 59], [80, 110, 51, 59]]) ((hg 12 (by omega)).trans rfl) _ _ rfl⟩
  | 13, _ => exact ⟨some ⟨w.heap.size + 13, 0, none⟩, 1, (cell_of_heap h21 13).trans rfl, texts_blk (l := [[83, 110, 49, 59, 110, 50, 59]]) ((hg 13 (by omega)).trans rfl) _ _ rfl⟩
  | 14, _ => exact ⟨some ⟨w.heap.size + 14, 0, none⟩, 1, (cell_of_heap h21 14).trans rfl, texts_blk (l := [[68, 110, 49, 59, 110, 50, 59]]) ((hg 14 (by omega)).trans rfl) _ _ rfl⟩
  | 15, _ => exact ⟨some ⟨w.heap.size + 15, 0, none⟩, 1, (cell_of_heap h21 15).trans rfl, texts_blk (l := [[88, 110, 49, 59, 110, 50, 59]]) ((hg 15 (by omega)).trans rfl) _ _ rfl⟩
  | 16, _ => exact ⟨some ⟨w.heap.size + 16, 0, none⟩, 3, (cell_of_heap h21 16).trans rfl, texts_blk (l := [[66, 88, 110, 49, 59, 110, 50, 59, 110, 51, 59], [110, 49, 59], [80, 110, 50, 59]]) ((hg 16 (by omega)).trans rfl) _ _ rfl⟩
  | 17, _ => exact ⟨some ⟨w.heap.size + 17, 0, none⟩, 2, (cell_of_heap h21 17).trans rfl, texts_blk (l := [[110, 51, 59], [87, 80, 110, 49, 59, 80, 110, 50, 59]]) ((hg 17 (by omega)).trans rfl) _ _ rfl⟩
  | 18, _ => exact ⟨some ⟨w.heap.size + 18, 0, none⟩, 3, (cell_of_heap h21 18).trans rfl, texts_blk (l := [[110, 49, 59], [110, 50, 59], [110, 51, 59]]) ((hg 18 (by omega)).trans rfl) _ _ rfl⟩
  | 19, _ => exact ⟨some ⟨w.heap.size + 19, 0, none⟩, 2, (cell_of_heap h21 19).trans rfl, texts_blk (l := [[66, 116, 48, 58, 110, 49, 59], [110]]) ((hg 19 (by omega)).trans rfl) _ _ rfl⟩
  | 20, _ => exact ⟨some ⟨w.heap.size + 20, 0, none⟩, 1, (cell_of_heap h21 20).trans rfl, texts_blk (l := [[76, 80, 110, 49, 59, 110, 50, 59]]) ((hg 20 (by omega)).trans rfl) _ _ rfl⟩
  | i + 21, h => exact absurd h (by have : hrdL.length = 21 := rfl; omega)
theorem hrdL_short : ∀ l ∈ hrdL, l.length ≤ 40 ∧ ∀ i (h : i < l.length), l[i].length ≤ 140737488355328 := by
  have h : ∀ l ∈ hrdL, l.length ≤ 40 ∧ ∀ x ∈ l, x.length ≤ 100 := by decide +kernel
  intro l hl
  exact ⟨(h l hl).1, fun i hi => Nat.le_trans ((h l hl).2 _ (List.getElem_mem hi)) (by omega)⟩
theorem askL_short : ∀ x ∈ askL, x.length ≤ 100 := by decide +kernel
theorem ask_to (B k : Nat) (q : Int) (hq : q = (k : Int)) (h : k ≤ 27) (W : World) : (Instr.sliceAt 22 (.slice (some ⟨B, 0, none⟩) 27 27) none (some (.int .i64 q)) none).run Tryz.prog W = .ok (.slice (some ⟨B, 0, none⟩) k 27) W := by
  subst hq
  exact terms_to .i64 _ 27 27 k h W
theorem ask_one (B : Nat) (W : World) : (Instr.sliceAt 22 (.slice (some ⟨B, 0, none⟩) 27 27) (some (.int .i64 1)) (some (.int .i64 2)) none).run Tryz.prog W = .ok (.slice (some ⟨B, 1, none⟩) 1 26) W := by
  obtain ⟨i, hi, _, hz, _⟩ := info_parts Tryz.info29
  simp [Instr.sliceAt, Instr.slice, Instr.sliceBounds, Instr.sliceBound, asIntOf, run_underlying Tryz.underlying22, sizeOf, typeInfo, hi, hz, go_sem, Addr.add]

set_option maxRecDepth 100000 in
set_option maxHeartbeats 16000000 in
theorem knownlaw_any (w : World) (hG : G0 w) (hP : Pw w) : Calls Tryz.prog 6 #[] w fun e w' => e = .returned (.bool true) ∧ Below w.heap.size w w' := by
  have HG := hid hG
  have HP := hid hP
  have HKL := hid (klay_of w)
  have HSZ : Hid ((allocAll w (blks w.heap.size)).heap.size = w.heap.size + 22) := hid (allocAll_size w (blks w.heap.size))
  clear hG hP
  go_enter Tryz.func6, Tryz.ntmps6
  go_wp2_with fail
  generalize hW0 : World.alloc _ _ = W
  have hW : allocAll w (blks w.heap.size) = W := by rw [← hW0]; rfl
  rw [hW] at HKL HSZ
  clear hW hW0
  obtain ⟨B, hB⟩ : ∃ B, B = w.heap.size := ⟨_, rfl⟩
  have HB := hid hB
  have HK : Hid (Texts W (.slice (some ⟨B, 0, none⟩) 27 27) askL ∧ ∀ i (h : i < hrdL.length), ∃ a c, W.cell? ⟨B + 21, i, none⟩ = some (.slice a hrdL[i].length c) ∧ Texts W (.slice a hrdL[i].length c) hrdL[i]) := hid (by rw [hB]; exact ⟨HKL.out.ask, HKL.out.hrd⟩)
  have HZ : Hid (B + 21 < W.heap.size) := hid (by rw [HSZ.out]; omega)
  have HBW := hid HKL.out.bel
  rw [← hB]
  clear hB HKL HSZ
  have HGW := hid (HG.out.below HBW.out)
  have HPW := hid (HP.out.below HBW.out)
  go_loopg [3, 31] 21 (fun gg _s3 s31 wr => ∃ i : Nat, i ≤ 21 ∧ gg = 21 - i ∧ s31 = .int .i64 (i : Int) ∧ Below W.heap.size W wr)
  case atStart => exact ⟨0, by omega, by omega, rfl, Below.refl _ _⟩
  case round =>
    obtain ⟨i, hi, rfl, rfl, hbel⟩ := hrel
    have HBE := hid hbel
    clear hbel
    by_cases hil : i < 21
    · have hi1 : (i : Int) < 21 := by omega
      have hik : i < hrdL.length := hil
      obtain ⟨a, c, hcell, htx⟩ := HK.out.2 i hik
      obtain ⟨hs1, hs2⟩ := hrdL_short _ (List.getElem_mem hik)
      have hc1 : wr.cell? ⟨B + 21, i, none⟩ = some (.slice a hrdL[i].length c) := (HBE.out.cell (p := ⟨B + 21, i, none⟩) HZ.out).trans hcell
      have HTX := hid htx
      have HS1 := hid hs1
      have HS2 := hid hs2
      clear hcell htx hs1 hs2
      generalize hrdL[i] = l at hc1 HTX HS1 HS2
      have hax : ∀ i (h : i < askL.length), askL[i].length ≤ 140737488355328 := fun i h => Nat.le_trans (askL_short _ (List.getElem_mem h)) (by omega)
      have HT1 : Hid (∀ W', Below W.heap.size W W' → Texts W' (.slice a l.length c) l ∧ Texts W' (.slice (some ⟨B, 0, none⟩) 27 27) askL ∧ Texts W' (.slice (some ⟨B, 0, none⟩) 5 27) (askL.take 5) ∧ Texts W' (.slice (some ⟨B, 0, none⟩) 1 27) (askL.take 1) ∧ Texts W' (.slice (some ⟨B, 1, none⟩) 1 26) ((askL.take 2).drop 1)) := hid (fun W' hb => by
        have ha : Texts W' (.slice (some ⟨B, 0, none⟩) askL.length 27) askL := texts_below HK.out.1 hb
        refine ⟨texts_below HTX.out hb, ha, texts_to ha 5 27 (by decide), texts_to ha 1 27 (by decide), ?_⟩
        have h2 : Texts W' (.slice (some ⟨B, 0, none⟩) (askL.take 2).length 27) (askL.take 2) := texts_to ha 2 27 (by decide)
        have h3 := texts_from h2 (by decide) 1 26
        have e3 : (askL.take 2).length - 1 = 1 := rfl
        rw [if_neg (by omega), e3] at h3
        simpa [Addr.add] using h3)
      have HX5 : Hid (∀ i (h : i < (askL.take 5).length), (askL.take 5)[i].length ≤ 140737488355328) := hid (fun i h => by rw [List.getElem_take]; exact hax _ _)
      have HX1 : Hid (∀ i (h : i < (askL.take 1).length), (askL.take 1)[i].length ≤ 140737488355328) := hid (fun i h => by rw [List.getElem_take]; exact hax _ _)
      have HX2 : Hid (∀ i (h : i < ((askL.take 2).drop 1).length), ((askL.take 2).drop 1)[i].length ≤ 140737488355328) := hid (fun i h => by rw [List.getElem_drop, List.getElem_take]; exact hax _ _)
      have HAX := hid hax
      have HLM : Hid (l.length ≤ maxLen) := hid (by have := HS1.out; unfold maxLen; omega)
      have K1 : Hid (∀ W', Below W.heap.size W W' → Calls Tryz.prog 19 #[.slice a l.length c, .slice (some ⟨B, 0, none⟩) 27 27] W' fun e w' => e = .returned (.bool true) ∧ Below W'.heap.size W' w') := hid (fun W' hb => knolaw_any W' (HGW.out.below hb) a (some ⟨B, 0, none⟩) c 27 l askL (HT1.out W' hb).1 (HT1.out W' hb).2.1 HLM.out (by unfold maxLen; decide) HS2.out HAX.out)
      have K2 : Hid (∀ W', Below W.heap.size W W' → Calls Tryz.prog 3 #[.slice a l.length c, .slice (some ⟨B, 0, none⟩) 5 27, .slice (some ⟨B, 0, none⟩) 27 27] W' fun e w' => e = .returned (.bool true) ∧ Below W'.heap.size W' w') := hid (fun W' hb => morelaw_any W' (HGW.out.below hb) (HPW.out.below hb) a (some ⟨B, 0, none⟩) (some ⟨B, 0, none⟩) c 27 27 l (askL.take 5) askL (HT1.out W' hb).1 (HT1.out W' hb).2.2.1 (HT1.out W' hb).2.1 HLM.out (by unfold maxLen; decide) (by unfold maxLen; decide) HS2.out HX5.out HAX.out)
      have K3 : Hid (∀ W', Below W.heap.size W W' → Calls Tryz.prog 20 #[.slice a l.length c, .slice (some ⟨B, 0, none⟩) 1 27, .slice (some ⟨B, 1, none⟩) 1 26, .slice (some ⟨B, 0, none⟩) 27 27] W' fun e w' => e = .returned (.bool true) ∧ Below W'.heap.size W' w') := hid (fun W' hb => coplaw_any W' (HGW.out.below hb) a (some ⟨B, 0, none⟩) (some ⟨B, 1, none⟩) (some ⟨B, 0, none⟩) c 27 26 27 l (askL.take 1) ((askL.take 2).drop 1) askL (HT1.out W' hb).1 (HT1.out W' hb).2.2.2.1 (HT1.out W' hb).2.2.2.2 (HT1.out W' hb).2.1 HLM.out (by unfold maxLen; decide) (by unfold maxLen; decide) (by unfold maxLen; decide) HS2.out HX1.out HX2.out HAX.out)
      have K4 : Hid (∀ W', Below W.heap.size W W' → Calls Tryz.prog 4 #[.slice a l.length c, .slice (some ⟨B, 0, none⟩) 27 27, .int .i64 9] W' fun e w' => e = .returned (.bool true) ∧ Below W'.heap.size W' w') := hid (fun W' hb => freshlaw_any W' (HGW.out.below hb) (HPW.out.below hb) a (some ⟨B, 0, none⟩) c 27 l askL 9 (by decide) (HT1.out W' hb).1 (HT1.out W' hb).2.1 HLM.out (by unfold maxLen; decide) HS2.out HAX.out)
      have K5 : Hid (∀ W', Below W.heap.size W W' → Calls Tryz.prog 5 #[.slice a l.length c, .int .i64 8, .int .i64 9] W' fun e w' => e = .returned (.bool true) ∧ Below W'.heap.size W' w') := hid (fun W' hb => hideslaw_any W' (HGW.out.below hb) (HPW.out.below hb) a c l 8 9 (by decide) (by decide) (HT1.out W' hb).1 HLM.out HS2.out)
      clear hax HT1 HX5 HX1 HX2 HAX HLM HS1 HS2 HTX
      generalize l.length = n at hc1 K1 K2 K3 K4 K5
      have hz1 := ask_to B 5 5 rfl (by omega)
      have hz2 := ask_to B 1 1 rfl (by omega)
      have hz3 := ask_one B
      go_wp2_with fail
      go_region_held3 (fun _ => True) (exact trivial) (first
        | (go_at_call 19; refine (K1.out _ (by first | exact HBX.out | exact HBE.out.drew)).mono ?_; rintro e wX ⟨rfl, hbX⟩; have HBX := hid (two_below (by first | exact HBX.out | exact HBE.out.drew) hbX); clear hbX)
        | (go_at_call 3; refine (K2.out _ HBX.out).mono ?_; rintro e wX ⟨rfl, hbX⟩; have HBX := hid (two_below HBX.out hbX); clear hbX)
        | (go_at_call 20; refine (K3.out _ HBX.out).mono ?_; rintro e wX ⟨rfl, hbX⟩; have HBX := hid (two_below HBX.out hbX); clear hbX)
        | (go_at_call 4; refine (K4.out _ HBX.out).mono ?_; rintro e wX ⟨rfl, hbX⟩; have HBX := hid (two_below HBX.out hbX); clear hbX)
        | (go_at_call 5; refine (K5.out _ HBX.out).mono ?_; rintro e wX ⟨rfl, hbX⟩; have HBX := hid (two_below HBX.out hbX); clear hbX))
      go_wp2_with fail
      go_roundg (21 - (i + 1))
      case measure => omega
      case rel => exact ⟨i + 1, by omega, rfl, by go_num, HBX.out⟩
    · have hi1 : ¬ (i : Int) < 21 := by omega
      have HBR := hid (two_below HBW.out HBE.out)
      have HGR := hid (HG.out.below HBR.out)
      have HPR := hid (HP.out.below HBR.out)
      obtain ⟨w3, rfl⟩ : ∃ w3, w3 = wr := ⟨_, rfl⟩
      obtain ⟨U, hU, hUn, hUh⟩ := nms_uni
      have HU := hid hU
      have HUN := hid hUn
      have HUH := hid hUh
      clear hU hUn hUh hi hil HK HZ HGW HPW HG HP HBW HBE
      go_wp2_with fail
      refine (new_any _).mono ?_
      rintro e w4 ⟨rfl, hw4⟩
      have HB4 : Hid (Below w3.heap.size w3 w4) := by apply hid; rw [hw4]; exact (Below.refl _ _).alloc (Nat.le_refl _) _
      have HM4 : Hid (Rm w4 w3.heap.size none (fun _ => none)) := by apply hid; rw [hw4]; exact ⟨heap_alloc_new w3 _, fun _ => rfl⟩
      have HMX : Hid (Mx U w3 (nms 0) w4) := hid ⟨⟨none, _, ⟨HM4.out, ⟨fun _ h => (by cases h), fun _ h => absurd rfl h⟩, Mind.new.congr (fun t => by simp [nms]), HGR.out.below HB4.out, fun _ _ _ _ s hs => by cases hs⟩, fun _ e => by cases e⟩, HB4.out⟩
      clear hw4 HM4 HB4
      obtain ⟨p, hp⟩ : ∃ p, p = w3.heap.size := ⟨_, rfl⟩
      have HPP := hid hp
      rw [← hp]
      clear hp
      go_wp2_with fail
      go_loopg [5, 6, 7] 1024 (fun gg s5 _s6 _s7 wr => ∃ i : Nat, i ≤ 1024 ∧ gg = 1024 - i ∧ s5 = .int .i64 (i : Int) ∧ Mx U w3 (nms i) wr)
      case atStart => exact ⟨0, by omega, by omega, rfl, HMX.out⟩
      case round =>
        clear HMX
        obtain ⟨j, hj, rfl, rfl, hmx⟩ := hrel
        have HMX := hid hmx
        clear hmx
        by_cases hjl : j < 1024
        · have hj1 : (j : Int) < 1024 := by omega
          have HNM := hid (mkname_any (j : Int) (by omega) wr (HPR.out.below HMX.out.bel))
          rw [nmb_res (by omega)] at HNM
          have HLE : Hid (∀ W', Below wr.heap.size wr W' → Calls Tryz.prog 11 #[.pointer (some ⟨p, 0, none⟩), St (nmb j)] W' fun e w' => e = .returned (.int .i64 0) ∧ Mx U w3 (nmb j :: nms j) w') := hid (fun W' hb => by
            rw [HPP.out]
            exact (HMX.out.below hb).learn HU.out (HUN.out _ (nms_mem.2 ⟨j, hjl, rfl⟩)) (by rw [nms_len]; exact hjl))
          have HNS := hid (nms_succ j)
          clear HMX hjl
          generalize nmb j = t at HNM HLE HNS
          go_wp2_with fail
          refine HNM.out.mono ?_
          rintro e w5 ⟨rfl, hb5⟩
          have HL5 := hid (HLE.out w5 hb5)
          clear hb5 HNM HLE
          go_wp2_with fail
          refine HL5.out.mono ?_
          rintro e w6 ⟨rfl, hm6⟩
          have HM6 := hid hm6
          clear hm6 HL5
          go_wp2_with fail
          go_roundg (1024 - (j + 1))
          case measure => omega
          case rel => exact ⟨j + 1, by omega, rfl, by go_num, by rw [HNS.out]; exact HM6.out⟩
        · have hj1 : ¬ (j : Int) < 1024 := by omega
          have hj2 : j = 1024 := by omega
          subst hj2
          obtain ⟨w7, rfl⟩ : ∃ w7, w7 = wr := ⟨_, rfl⟩
          obtain ⟨o, N, hmi, _⟩ := HMX.out.mi
          rw [← HPP.out] at hmi
          have HMI := hid hmi
          have HB7 := hid HMX.out.bel
          obtain ⟨k1, k2, k3⟩ := nms_knows hmi
          have HK1 := hid k1
          have HK2 := hid k2
          have HK3 := hid k3
          clear hmi HMX hj hjl k1 k2 k3
          have HA1 := hid (learn_full HU.out HMI.out HUH.out)
          have HA2 := hid (fun W (hb : Below w7.heap.size w7 W) => learn_heard W p o N (HMI.out.below hb).rm [110, 53, 59] (by decide +kernel) HK3.out)
          have HA3 := hid (fun W (hb : Below w7.heap.size w7 W) => knows_any W p o N [110, 50, 48, 48, 48, 59] (HMI.out.below hb).rm (by decide))
          have HA4 := hid (fun W (hb : Below w7.heap.size w7 W) => knows_any W p o N [72, 110, 53, 59] (HMI.out.below hb).rm (by decide))
          rw [HK1.out] at HA3
          rw [HK2.out] at HA4
          have HA5 := hid (fun W (hb : Below w7.heap.size w7 W) => held_mi HU.out (HMI.out.below hb))
          have HA6 := hid (fun W (hb : Below w7.heap.size w7 W) => none_law W (HMI.out.g0.below hb) ⟨#[110, 49, 59]⟩)
          have HA7 := hid (fun W (hb : Below w7.heap.size w7 W) => works_any W (HMI.out.g0.below hb))
          clear HK1 HK2 HK3
          go_wp2_with fail
          refine HA1.out.mono ?_
          rintro e w8 ⟨rfl, hb8⟩
          have HB8 := hid hb8
          clear hb8
          go_wp2_with fail
          refine (HA2.out w8 HB8.out).mono ?_
          rintro e w9 ⟨rfl, hb9⟩
          have HB9 := hid (two_below HB8.out hb9)
          clear hb9
          go_wp2_with fail
          refine (HA3.out w9 HB9.out).mono ?_
          rintro e w10 ⟨rfl, hb10⟩
          have HB10 := hid (two_below HB9.out hb10)
          clear hb10
          go_wp2_with fail
          refine (HA4.out w10 HB10.out).mono ?_
          rintro e w11 ⟨rfl, hb11⟩
          have HB11 := hid (two_below HB10.out hb11)
          clear hb11
          go_wp2_with fail
          refine (HA5.out w11 HB11.out).mono ?_
          rintro e w12 ⟨v, K, rfl, hnd, _, hkm, hown, hb12⟩
          have hcn := nms_count hnd hkm
          obtain ⟨a8, c8, rfl⟩ := own_shape hown
          rw [hcn]
          have HB12 := hid (two_below HB11.out hb12)
          clear hb12 hnd hkm hown hcn
          go_wp2_with fail
          refine (HA6.out w12 HB12.out).mono ?_
          rintro e w13 ⟨rfl, hb13⟩
          have HB13 := hid (two_below HB12.out hb13)
          clear hb13
          go_wp2_with (first | (go_at_call 13; refine (HA7.out w13 HB13.out).mono ?_; rintro e w14 ⟨rfl, hb14⟩; have HB14 := hid (two_below HB13.out hb14); clear hb14) | go_in)
          go_ret
          exact ⟨rfl, two_below (two_below HBR.out HB7.out) HB14.out⟩
end Go.Proofs.YtfnnhekjeobicaaGreatDoor
