/- LockNeeds: the law. -/
import Derived.Test.YtdllpklecdmghaaGreatDoorLkWkAll
import Derived.Deep.QuietTactic
import Derived.BigQuiet
namespace Go.Proofs.YtdllpklecdmghaaGreatDoor
open Go.RowKit
open Lk (Lt Sp)
theorem nm_len (i : Nat) : (nmT i).length = 3 := rfl
theorem add_text (a b : Bs) (h : a.length + b.length ≤ 9223372036854775807) (W : World) : (Op.stringOp .add (⟨a.toArray⟩ : ByteArray) ⟨b.toArray⟩).run Tryz.prog W = .ok (St (a ++ b)) W := by
  have h1 := st_app a b
  have h2 : (⟨a.toArray⟩ : ByteArray).size = a.length := by simp [ByteArray.size]
  have h3 : (⟨b.toArray⟩ : ByteArray).size = b.length := by simp [ByteArray.size]
  have h4 : ¬ (9223372036854775807 : Int) < (a.length : Int) + (b.length : Int) := by omega
  simp [Op.stringOp, h1, h2, h3, h4, go_sem]
theorem kd_list {b : Nat → Prop} {W : World} {g d n cap : Nat} (l : List (Lt × Value)) (hn : n = l.length) (h : W.heap[g]? = some (.cells (rcs l).toArray 25 (0, 0))) (hb : b g) (hl : l.length ≤ 1000000) (hx : ∀ q ∈ l, Lr q.1 ∧ Kd b W d q.2 q.1.kids) : Kd b W (d + 1) (.slice (some ⟨g, 0, none⟩) n cap) (l.map Prod.fst) := by
  subst hn
  refine ⟨by rw [List.length_map]; omega, some ⟨g, 0, none⟩, cap, by rw [List.length_map], fun _ => ⟨g, 0, rfl, hb, fun i hi => ?_⟩⟩
  rw [List.length_map] at hi
  refine ⟨l[i].2, fun j u hu => ?_, ?_, ?_⟩
  · rw [List.getElem_map] at hu
    rw [cell_of_heap h, Nat.zero_add, List.getElem?_toArray]
    exact rcs_at l i hi j u hu
  · rw [List.getElem_map]; exact (hx _ (List.getElem_mem hi)).1
  · rw [List.getElem_map]; exact (hx _ (List.getElem_mem hi)).2
theorem pick4 (k : Int) : ∃ i : Nat, i < 4 ∧ k % 4 = (i : Int) := ⟨(k % 4).toNat, by have := Int.emod_nonneg k (show (4 : Int) ≠ 0 by decide); have := Int.emod_lt_of_pos k (show (0 : Int) < 4 by decide); omega, by have := Int.emod_nonneg k (show (4 : Int) ≠ 0 by decide); omega⟩
theorem pick1000 (k : Int) : ∃ i : Nat, i < 1000 ∧ k % 1000 = (i : Int) := ⟨(k % 1000).toNat, by have := Int.emod_nonneg k (show (1000 : Int) ≠ 0 by decide); have := Int.emod_lt_of_pos k (show (0 : Int) < 1000 by decide); omega, by have := Int.emod_nonneg k (show (1000 : Int) ≠ 0 by decide); omega⟩
theorem nm_cell {W : World} {g : Nat} (h : W.heap[g]? = some (.cells #[.string ⟨#[110, 49, 59]⟩, .string ⟨#[110, 50, 59]⟩, .string ⟨#[110, 51, 59]⟩, .string ⟨#[110, 52, 59]⟩] 22 (0, 0))) {i : Nat} (hi : i < 4) : W.cell? ⟨g, i, none⟩ = some (St (nmT i)) := by
  rw [cell_of_heap h]
  match i, hi with
  | 0, _ => rfl
  | 1, _ => rfl
  | 2, _ => rfl
  | 3, _ => rfl
theorem any_next {l : List Bs} {i : Nat} (hi : i < l.length) (K : Bs) (h : (l.take i).any (fun x => decide (x = K)) = false) : (l.take (i + 1)).any (fun x => decide (x = K)) = decide (l[i] = K) := by
  rw [List.take_add_one, List.any_append, h, List.getElem?_eq_getElem hi]
  simp
set_option maxRecDepth 100000 in
set_option maxHeartbeats 8000000 in
theorem needs_any (k p n af ag : Int) (sg pr : List Bs) (sa pa : Option Addr) (sc pc : Nat) (w : World) (hw : Pw w) (hs : Texts w (.slice sa sg.length sc) sg) (hp : Texts w (.slice pa pr.length pc) pr) (l1 : sg.length ≤ 140737488355328) (l2 : pr.length ≤ 140737488355328) (l4 : ∀ x ∈ sg, x.length ≤ 140737488355328) (l5 : ∀ x ∈ pr, x.length ≤ 140737488355328) :
    Calls Tryz.prog 32 #[.int .i64 k, .int .i64 p, .int .i64 n, .agg #[.slice sa sg.length sc, .slice pa pr.length pc], .int .i64 af, .int .i64 ag] w fun e w' => e = .returned (.bool true) ∧ Below w.heap.size w w' := by
  obtain ⟨ki, hki, ek⟩ := pick4 k
  obtain ⟨pj, hpj, ep⟩ := pick4 p
  obtain ⟨nn, hnn, en⟩ := pick1000 n
  have HP1 : Hid (∀ W, Calls Tryz.prog 56 #[.int .i64 k, .int .i64 4] W fun e w' => e = .returned (.int .i64 (ki : Int)) ∧ w' = W) := hid (fun W => by rw [← ek]; exact pick_any k 4 W (by decide))
  have HP2 : Hid (∀ W, Calls Tryz.prog 56 #[.int .i64 p, .int .i64 4] W fun e w' => e = .returned (.int .i64 (pj : Int)) ∧ w' = W) := hid (fun W => by rw [← ep]; exact pick_any p 4 W (by decide))
  have HP3 : Hid (∀ W, Calls Tryz.prog 56 #[.int .i64 n, .int .i64 1000] W fun e w' => e = .returned (.int .i64 (nn : Int)) ∧ w' = W) := hid (fun W => by rw [← en]; exact pick_any n 1000 W (by decide))
  have HKI := hid hki
  have HPJ := hid hpj
  have HNN := hid hnn
  obtain ⟨wB, hwB⟩ : ∃ wB, wB = w.alloc (.cells #[.slice sa sg.length sc, .slice pa pr.length pc] 40) := ⟨_, rfl⟩
  have hbB : Below w.heap.size w wB := hwB ▸ below_al w _
  have hhB : wB.heap[w.heap.size]? = some (.cells #[.slice sa sg.length sc, .slice pa pr.length pc] 40 (0, 0)) := hwB ▸ heap_alloc_new w _
  have HLG := hid (large_any sg pr [] sa pa sc pc wB (hs.low hbB) (hp.low hbB) l1 l2 (by decide) l4 l5)
  have HBB := hid hbB
  have HHB := hid hhB
  have HTS := hid (hs.low hbB)
  have HTP := hid (hp.low hbB)
  have HPW := hid hw
  have L1 := hid l1
  have L2 := hid l2
  obtain ⟨n1, hn1⟩ : ∃ m, m = sg.length := ⟨_, rfl⟩
  obtain ⟨n2, hn2⟩ : ∃ m, m = pr.length := ⟨_, rfl⟩
  rw [← hn1, ← hn2] at hwB HLG HHB ⊢
  rw [← hn1] at HTS L1
  rw [← hn2] at HTP L2
  have HN1 := hid hn1
  have HN2 := hid hn2
  clear hki hpj hnn ek ep en hs hp hw l1 l2 l4 l5 hbB hhB hn1 hn2
  go_enter Tryz.func32, Tryz.ntmps32
  go_wp2_with fail
  rw [← hwB]
  clear hwB
  refine HLG.out.mono ?_
  rintro e w1 ⟨hlg, hb1⟩
  rcases hlg with ⟨rfl, hsm⟩ | rfl
  rotate_left
  · have HB1 := hid (HBB.out.trans (hb1.mono HBB.out.size))
    clear hb1
    go_wp2_with fail
    go_ret
    exact ⟨rfl, HB1.out⟩
  · have HB1 := hid (HBB.out.trans (hb1.mono HBB.out.size))
    have HSM := hid hsm
    have hh1 := (hb1.block _ (lt_of_heap HHB.out)).trans HHB.out
    have HTS1 := hid (HTS.out.low hb1)
    have HTP1 := hid (HTP.out.low hb1)
    clear hb1 hsm HTS HTP HLG
    have hn4 := heap_alloc_new w1 (.cells #[.string ⟨#[110, 49, 59]⟩, .string ⟨#[110, 50, 59]⟩, .string ⟨#[110, 51, 59]⟩, .string ⟨#[110, 52, 59]⟩] 22)
    have hb2 := below_al w1 (.cells #[.string ⟨#[110, 49, 59]⟩, .string ⟨#[110, 50, 59]⟩, .string ⟨#[110, 51, 59]⟩, .string ⟨#[110, 52, 59]⟩] 22)
    have c1 := nm_cell hn4 HKI.out
    have c2 := nm_cell hn4 HPJ.out
    have k1 : (ki : Int) < 4 := by have := HKI.out; omega
    have k2 : (pj : Int) < 4 := by have := HPJ.out; omega
    have k3 : (0 : Int) ≤ (ki : Int) := Int.natCast_nonneg _
    have k4 : (0 : Int) ≤ (pj : Int) := Int.natCast_nonneg _
    have HB2 := hid (HB1.out.trans (hb2.mono HB1.out.size))
    have HH2 := hid ((hb2.block _ (lt_of_heap hh1)).trans hh1)
    have HTS2 := hid (HTS1.out.low hb2)
    have HTP2 := hid (HTP1.out.low hb2)
    clear hn4 hb2 hh1 HTS1 HTP1
    obtain ⟨W2, hW2⟩ : ∃ W2, W2 = w1.alloc (.cells #[.string ⟨#[110, 49, 59]⟩, .string ⟨#[110, 50, 59]⟩, .string ⟨#[110, 51, 59]⟩, .string ⟨#[110, 52, 59]⟩] 22) := ⟨_, rfl⟩
    rw [← hW2] at c1 c2 HB2 HH2 HTS2 HTP2
    have hs0 : W2.cell? ⟨w1.heap.size, ki, none⟩ = some (St (nmT ki)) ∧ W2.cell? ⟨w1.heap.size, pj, none⟩ = some (St (nmT pj)) := ⟨c1, c2⟩
    generalize hkt : nmT ki = KT at *
    generalize hpt : nmT pj = PT at *
    go_wp2_with fail
    rw [← hW2]
    clear hW2
    go_region_held3 (fun wq => wq.cell? ⟨w1.heap.size, ki, none⟩ = some (St KT) ∧ wq.cell? ⟨w1.heap.size, pj, none⟩ = some (St PT)) (first | exact hs0 | exact hs0.1 | exact hs0.2) (first | (go_at_call_of 56 k; refine (HP1.out _).mono ?_; rintro e wa ⟨rfl, rfl⟩) | (go_at_call_of 56 p; refine (HP2.out _).mono ?_; rintro e wa ⟨rfl, rfl⟩))
    clear c1 c2 k1 k2 k3 k4 hs0
    obtain ⟨W3, hW3⟩ : ∃ W3, W3 = W2.drew := ⟨_, rfl⟩
    have hb3 : Below W2.heap.size W2 W3 := hW3 ▸ below_dr W2
    have HB3 := hid (HB2.out.trans (hb3.mono HB2.out.size))
    have HH3 := hid ((hb3.block _ (lt_of_heap HH2.out)).trans HH2.out)
    have HTS3 := hid (HTS2.out.low hb3)
    have HTP3 := hid (HTP2.out.low hb3)
    clear hb3 HB2 HH2 HTS2 HTP2 HP1 HP2
    obtain ⟨nh, hnh⟩ : ∃ nh, nh = nn / 2 := ⟨_, rfl⟩
    have hq1 : (nn : Int) / 2 = (nh : Int) := by omega
    have hq2 : wrap64 ((nn : Int) / 2) = (nh : Int) := by rw [hq1]; exact wrap_nat (by have := HNN.out; omega) (by have := HNN.out; omega)
    have hq3 : wrap64 (nh : Int) = (nh : Int) := by rw [hq1] at hq2; exact hq2
    have HNH := hid hnh
    clear hnh
    have H1 : Hid (∀ W, Calls Tryz.prog 24 #[St (80 :: KT)] W fun e w' => e = .returned (.agg #[.int .u8 1, St (80 :: KT), .int .i64 0, .slice none 0 0]) ∧ Below W.heap.size W w') := hid (fun W => mk_sig _ W (by rw [List.length_cons, ← hkt, nm_len]; omega))
    have H2 : Hid (∀ W, Calls Tryz.prog 25 #[St (72 :: PT)] W fun e w' => e = .returned (.agg #[.int .u8 2, St (72 :: PT), .int .i64 0, .slice none 0 0]) ∧ Below W.heap.size W w') := hid (fun W => mk_pre _ W (by rw [List.length_cons, ← hpt, nm_len]; omega))
    have H3 : Hid (∀ W, Calls Tryz.prog 22 #[.int .i64 (nn : Int)] W fun e w' => e = .returned (.agg #[.int .u8 3, St [], .int .i64 (nn : Int), .slice none 0 0]) ∧ Below W.heap.size W w') := hid (fun W => mk_after _ W)
    have H4 : Hid (∀ W, Calls Tryz.prog 26 #[.int .i64 (nh : Int)] W fun e w' => e = .returned (.agg #[.int .u8 4, St [], .int .i64 (nh : Int), .slice none 0 0]) ∧ Below W.heap.size W w') := hid (fun W => mk_older _ W)
    have a1 : ∀ W, (Op.stringOp .add (⟨#[80]⟩ : ByteArray) ⟨KT.toArray⟩).run Tryz.prog W = .ok (.string ⟨(80 :: KT).toArray⟩) W := fun W => add_text [80] KT (by rw [← hkt, nm_len]; decide) W
    have a2 : ∀ W, (Op.stringOp .add (⟨#[72]⟩ : ByteArray) ⟨PT.toArray⟩).run Tryz.prog W = .ok (.string ⟨(72 :: PT).toArray⟩) W := fun W => add_text [72] PT (by rw [← hpt, nm_len]; decide) W
    have HKT := hid hkt
    have HPT := hid hpt
    clear hkt hpt
    go_wp2_with fail
    rw [← hW3]
    clear hW3
    refine (HP3.out _).mono ?_
    rintro e w4 ⟨rfl, rfl⟩
    go_wp2_with fail
    refine (H1.out _).mono ?_
    rintro e w5 ⟨rfl, hb⟩
    have HB5 := hid (HB3.out.trans (hb.mono HB3.out.size))
    have HD5 := hid hb
    clear hb
    go_wp2_with fail
    refine (H2.out _).mono ?_
    rintro e w6 ⟨rfl, hb⟩
    have HD6 := hid (HD5.out.trans (hb.mono HD5.out.size))
    clear hb HD5 HB5
    go_wp2_with fail
    refine (H3.out _).mono ?_
    rintro e w7 ⟨rfl, hb⟩
    have HD7 := hid (HD6.out.trans (hb.mono HD6.out.size))
    clear hb HD6
    go_wp2_with fail
    refine (H4.out _).mono ?_
    rintro e w8 ⟨rfl, hb⟩
    have HD8 := hid (HD7.out.trans (hb.mono HD7.out.size))
    clear hb HD7 H1 H2 H3 H4 a1 a2 hq1 hq2 hq3
    have H5 : Hid (Calls Tryz.prog 23 #[.slice (some ⟨w8.heap.size, 0, none⟩) 4 4] (w8.alloc (.cells #[.int .u8 1, St (80 :: KT), .int .i64 0, .slice none 0 0, .int .u8 2, St (72 :: PT), .int .i64 0, .slice none 0 0, .int .u8 3, St [], .int .i64 (nn : Int), .slice none 0 0, .int .u8 4, St [], .int .i64 (nh : Int), .slice none 0 0] 25)) fun e w' => ∃ a c, e = .returned (.agg #[.int .u8 5, St [], .int .i64 0, .slice a 4 c]) ∧ Kd (fun _ => True) w' 1 (.slice a 4 c) (ndL ki pj (nn : Int) (nh : Int)).kids ∧ Below w8.heap.size w8 w') := hid (by
      have hnn := HNN.out
      have hnh := HNH.out
      have e1 : (80 :: KT).length = 4 := by rw [← HKT.out]; rfl
      have e2 : (72 :: PT).length = 4 := by rw [← HPT.out]; rfl
      have hk := kd_list (b := fun _ => True) (d := 0) (n := 4) (cap := 4) [(.mk 1 (80 :: KT) 0 [], .slice none 0 0), (.mk 2 (72 :: PT) 0 [], .slice none 0 0), (.mk 3 [] (nn : Int) [], .slice none 0 0), (.mk 4 [] (nh : Int) [], .slice none 0 0)] rfl (heap_alloc_new w8 _) trivial (by simp) (fun q hq => by
        simp only [List.mem_cons, List.not_mem_nil, or_false] at hq
        rcases hq with rfl | rfl | rfl | rfl
        · exact ⟨lr_small _ _ _ _ (by decide) (by omega) (by decide), Kd.nil _ _ _⟩
        · exact ⟨lr_small _ _ _ _ (by decide) (by omega) (by decide), Kd.nil _ _ _⟩
        · exact ⟨lr_small _ _ _ _ (by decide) (by decide) (by omega), Kd.nil _ _ _⟩
        · exact ⟨lr_small _ _ _ _ (by decide) (by decide) (by omega), Kd.nil _ _ _⟩)
      refine (mk_all (b := fun _ => True) 1 _ _ _ hk (by simp [Lk.smalls, Lk.small, Lk.sizes, e1, e2]) (by simp)).mono (fun e w' ⟨v', h1, h2, h3⟩ => ?_)
      obtain ⟨_, a, c, rfl⟩ := h2.shape
      refine ⟨a, c, h1, ?_, (below_al w8 _).trans (h3.mono (below_al w8 _).size)⟩
      have h4 := h2.base (c := fun _ => True) (fun _ _ => trivial)
      rw [← HKT.out, ← HPT.out] at h4
      exact h4)
    go_wp2_with fail
    refine H5.out.mono ?_
    rintro e w9 ⟨a9, c9, rfl, hk, hb⟩
    have hd9 := HD8.out.trans (hb.mono HD8.out.size)
    clear HD8 H5
    obtain ⟨W10, hW10⟩ : ∃ W10, W10 = w9.alloc (.cells #[.int .u8 5, .string ⟨#[]⟩, .int .i64 0, .slice a9 4 c9] 25) := ⟨_, rfl⟩
    have hb10 : Below w9.heap.size w9 W10 := hW10 ▸ below_al w9 _
    have hh10 : W10.heap[w9.heap.size]? = some (.cells #[.int .u8 5, .string ⟨#[]⟩, .int .i64 0, .slice a9 4 c9] 25 (0, 0)) := hW10 ▸ heap_alloc_new w9 _
    have hdd := hd9.trans (hb10.mono hd9.size)
    have HB10 := hid (HB3.out.trans (hdd.mono HB3.out.size))
    have HH10 := hid ((hdd.block _ (lt_of_heap HH3.out)).trans HH3.out)
    have HTS10 := hid (HTS3.out.low hdd)
    have HTP10 := hid (HTP3.out.low hdd)
    have HK10 := hid (hk.low hb10)
    have HL10 := hid hh10
    clear hk hb hd9 hb10 hh10 hdd HB3 HH3 HTS3 HTP3
    go_wp2_with fail
    rw [← hW10]
    clear hW10
    obtain ⟨SK, hSK⟩ : ∃ SK, SK = 83 :: (KT ++ [116, 49, 58, 109]) := ⟨_, rfl⟩
    have a3 : ∀ W, (Op.stringOp .add (⟨#[83]⟩ : ByteArray) ⟨KT.toArray⟩).run Tryz.prog W = .ok (.string ⟨(83 :: KT).toArray⟩) W := fun W => add_text [83] KT (by rw [← HKT.out, nm_len]; decide) W
    have a4 : ∀ W, (Op.stringOp .add (⟨(83 :: KT).toArray⟩ : ByteArray) ⟨#[116, 49, 58, 109]⟩).run Tryz.prog W = .ok (.string ⟨SK.toArray⟩) W := fun W => by rw [hSK]; exact add_text (83 :: KT) [116, 49, 58, 109] (by rw [List.length_cons, ← HKT.out, nm_len]; decide) W
    have HSK := hid hSK
    clear hSK
    have b0 : W10.cell? ⟨w.heap.size, 0, none⟩ = some (.slice sa n1 sc) := (cell_of_heap HH10.out 0).trans rfl
    have b1 : W10.cell? ⟨w.heap.size, 1, none⟩ = some (.slice pa n2 pc) := (cell_of_heap HH10.out 1).trans rfl
    go_loopg [17, 19] n1 (fun gg v17 v19 wx => ∃ i : Nat, gg = n1 - i ∧ i ≤ n1 ∧ v17 = .bool ((sg.take i).any (fun x => decide (x = SK))) ∧ v19 = .int .i64 (i : Int) ∧ wx = W10)
    case atStart => exact ⟨0, rfl, Nat.zero_le _, by simp, rfl, rfl⟩
    case round =>
      obtain ⟨i, rfl, hi, rfl, rfl, hwe⟩ := hrel
      subst hwe
      have hi0 : (0 : Int) ≤ (i : Int) := Int.natCast_nonneg _
      by_cases him : i < n1
      · have hik : i < sg.length := by have := HN1.out; omega
        have hiw : IntKind.i64.wrap ((i : Int) + 1) = ((i + 1 : Nat) : Int) := by rw [IntKind.wrap_i64]; have := L1.out; omega
        have hi1 : (i : Int) < (n1 : Int) := by omega
        have HI := hid him
        cases hP : (sg.take i).any (fun x => decide (x = SK)) with
        | true =>
          have HNX : Hid ((sg.take (i + 1)).any (fun x => decide (x = SK)) = true) := hid (by rw [List.take_add_one, List.any_append, hP]; rfl)
          clear hP hik him hi
          go_wp2_with fail
          go_roundg (n1 - (i + 1))
          case measure => have := HI.out; omega
          case rel => exact ⟨i + 1, rfl, HI.out, by rw [HNX.out], rfl, rfl⟩
        | false =>
          obtain ⟨_, _, hv, hc⟩ := HTS10.out
          cases hv
          obtain ⟨g, o, hg, hgl, hcs⟩ := hc (fun e => by rw [e] at hik; simp at hik)
          subst hg
          obtain ⟨x, hx⟩ : ∃ x, x = sg[i] := ⟨_, rfl⟩
          have e0 : wr.cell? ⟨g, o + i, none⟩ = some (St x) := by rw [hx]; exact hcs i hik
          have HNX : Hid ((sg.take (i + 1)).any (fun x => decide (x = SK)) = decide (x = SK)) := hid (by rw [hx]; exact any_next hik _ hP)
          clear hP hik him hi hx hcs hgl hc
          go_wp2_with fail
          go_roundg (sg.length - (i + 1))
          case measure => have := HI.out; omega
          case rel => exact ⟨i + 1, rfl, HI.out, by rw [HNX.out]; congr 1; rw [Bool.eq_iff_iff]; simp, rfl, rfl⟩
      · have hie : i = n1 := by omega
        subst hie
        have hin : ¬ (i : Int) < (i : Int) := by omega
        have HHAS : Hid ((sg.take i).any (fun x => decide (x = SK)) = sg.any (fun x => decide (x = SK))) := hid (by rw [HN1.out, List.take_length])
        rw [HHAS.out]
        obtain ⟨HAS, hHAS⟩ : ∃ b, b = sg.any (fun x => decide (x = SK)) := ⟨_, rfl⟩
        rw [← hHAS]
        have HHS := hid hHAS
        clear hi him HHAS a3 a4 hHAS
        go_wp2_with fail
        go_loopg [18, 20] n2 (fun gg v18 v20 wx => ∃ j : Nat, gg = n2 - j ∧ j ≤ n2 ∧ v18 = .bool ((pr.take j).any (fun x => decide (x = PT))) ∧ v20 = .int .i64 (j : Int) ∧ wx = wr)
        case atStart => exact ⟨0, rfl, Nat.zero_le _, by simp, rfl, rfl⟩
        case round =>
          obtain ⟨j, rfl, hi, rfl, rfl, hwe⟩ := hrel
          subst hwe
          have hi0 : (0 : Int) ≤ (j : Int) := Int.natCast_nonneg _
          by_cases him : j < n2
          · have hik : j < pr.length := by have := HN2.out; omega
            have hiw : IntKind.i64.wrap ((j : Int) + 1) = ((j + 1 : Nat) : Int) := by rw [IntKind.wrap_i64]; have := L2.out; omega
            have hi1 : (j : Int) < (n2 : Int) := by omega
            have HI := hid him
            cases hP : (pr.take j).any (fun x => decide (x = PT)) with
            | true =>
              have HNX : Hid ((pr.take (j + 1)).any (fun x => decide (x = PT)) = true) := hid (by rw [List.take_add_one, List.any_append, hP]; rfl)
              clear hP hik him hi
              go_wp2_with fail
              go_roundg (n2 - (j + 1))
              case measure => have := HI.out; omega
              case rel => exact ⟨j + 1, rfl, HI.out, by rw [HNX.out], rfl, rfl⟩
            | false =>
              obtain ⟨_, _, hv, hc⟩ := HTP10.out
              cases hv
              obtain ⟨g, o, hg, hgl, hcs⟩ := hc (fun e => by rw [e] at hik; simp at hik)
              subst hg
              obtain ⟨x, hx⟩ : ∃ x, x = pr[j] := ⟨_, rfl⟩
              have e0 : wr.cell? ⟨g, o + j, none⟩ = some (St x) := by rw [hx]; exact hcs j hik
              have HNX : Hid ((pr.take (j + 1)).any (fun x => decide (x = PT)) = decide (x = PT)) := hid (by rw [hx]; exact any_next hik _ hP)
              clear hP hik him hi hx hcs hgl hc
              go_wp2_with fail
              go_roundg (pr.length - (j + 1))
              case measure => have := HI.out; omega
              case rel => exact ⟨j + 1, rfl, HI.out, by rw [HNX.out]; congr 1; rw [Bool.eq_iff_iff]; simp, rfl, rfl⟩
          · have hje : j = n2 := by omega
            subst hje
            have hjn : ¬ (j : Int) < (j : Int) := by omega
            have HKNW : Hid ((pr.take j).any (fun x => decide (x = PT)) = pr.any (fun x => decide (x = PT))) := hid (by rw [HN2.out, List.take_length])
            rw [HKNW.out]
            obtain ⟨KN, hKN⟩ : ∃ b, b = pr.any (fun x => decide (x = PT)) := ⟨_, rfl⟩
            rw [← hKN]
            have HKN := hid hKN
            clear hi him HKNW hKN
            have HOP : Hid (∀ R, R = (decide (i ≤ 16) && decide (j ≤ 16) && HAS && KN && decide ((nn : Int) ≤ af) && decide ((nh : Int) ≤ ag)) → Calls Tryz.prog 20 #[.agg #[.int .u8 5, .string ⟨#[]⟩, .int .i64 0, .slice a9 4 c9], .agg #[.slice sa i sc, .slice pa j pc], .string ⟨#[116, 49, 58, 109]⟩, .int .i64 af, .int .i64 ag] wr fun e w' => e = .returned (.bool R) ∧ Below wr.heap.size wr w') := hid (fun R hR => by
              have hnn := HNN.out
              have hnh := HNH.out
              have h := lopens_any 1 (ndL ki pj (nn : Int) (nh : Int)) (.slice a9 4 c9) ⟨sg, pr, [116, 49, 58, 109], af, ag⟩ (.slice sa i sc) (.slice pa j pc) wr HK10.out ⟨HTS10.out, HTP10.out, by rw [← HN1.out]; exact L1.out, by rw [← HN2.out]; exact L2.out⟩
              rw [nd_op HKI.out HPJ.out (by omega) (by omega)] at h
              have e1 : (sg.any fun x => decide (x = 83 :: (nmT ki ++ [116, 49, 58, 109]))) = HAS := by rw [HHS.out, HSK.out, HKT.out]
              have e2 : (pr.any fun x => decide (x = nmT pj)) = KN := by rw [HKN.out, HPT.out]
              rw [e1, e2, ← HN1.out, ← HN2.out, ← hR] at h
              exact h)
            have d0 : wr.cell? ⟨w9.heap.size, 0, none⟩ = some (.int .u8 5) := (cell_of_heap HL10.out 0).trans rfl
            have d1 : wr.cell? ⟨w9.heap.size, 1, none⟩ = some (.string ⟨#[]⟩) := (cell_of_heap HL10.out 1).trans rfl
            have d2 : wr.cell? ⟨w9.heap.size, 2, none⟩ = some (.int .i64 0) := (cell_of_heap HL10.out 2).trans rfl
            have d3 : wr.cell? ⟨w9.heap.size, 3, none⟩ = some (.slice a9 4 c9) := (cell_of_heap HL10.out 3).trans rfl
            have HWK : Hid (∀ W, Below wr.heap.size wr W → Calls Tryz.prog 15 #[] W fun e w' => e = .returned (.bool true) ∧ Below w.heap.size w w') := hid (fun W hW => (works_any W (HPW.out.below (HB10.out.trans (hW.mono HB10.out.size)))).mono (fun e w' ⟨h1, h2⟩ => ⟨h1, (HB10.out.trans (hW.mono HB10.out.size)).trans (h2.mono (Nat.le_trans HB10.out.size hW.size))⟩))
            clear b0 b1
            have hq4 : wrap64 ((nn : Int) / 2) = (nh : Int) := by have h1 := HNH.out; have h2 := HNN.out; rw [show (nn : Int) / 2 = (nh : Int) by omega]; exact wrap_nat (by omega) (by omega)
            have b0 : wr.cell? ⟨w.heap.size, 0, none⟩ = some (.slice sa i sc) := (cell_of_heap HH10.out 0).trans rfl
            have b1 : wr.cell? ⟨w.heap.size, 1, none⟩ = some (.slice pa j pc) := (cell_of_heap HH10.out 1).trans rfl
            by_cases q1 : (i : Int) ≤ 16
            rotate_left
            · have HO : Hid (Calls Tryz.prog 20 #[.agg #[.int .u8 5, .string ⟨#[]⟩, .int .i64 0, .slice a9 4 c9], .agg #[.slice sa i sc, .slice pa j pc], .string ⟨#[116, 49, 58, 109]⟩, .int .i64 af, .int .i64 ag] wr fun e w' => e = .returned (.bool false) ∧ Below wr.heap.size wr w') := hid (HOP.out _ (by rw [decide_eq_false (show ¬ i ≤ 16 by omega)]; simp))
              clear HOP
              go_wp2_with fail
              refine HO.out.mono ?_
              rintro e w11 ⟨rfl, hb⟩
              have HW := hid (HWK.out w11 hb)
              clear hb HO
              go_wp2_with fail
              refine HW.out.mono ?_
              rintro e w12 ⟨rfl, hb⟩
              have HBZ := hid hb
              clear hb
              go_wp2_with fail
              go_ret
              exact ⟨rfl, HBZ.out⟩
            by_cases q2 : (j : Int) ≤ 16
            rotate_left
            · have HO : Hid (Calls Tryz.prog 20 #[.agg #[.int .u8 5, .string ⟨#[]⟩, .int .i64 0, .slice a9 4 c9], .agg #[.slice sa i sc, .slice pa j pc], .string ⟨#[116, 49, 58, 109]⟩, .int .i64 af, .int .i64 ag] wr fun e w' => e = .returned (.bool false) ∧ Below wr.heap.size wr w') := hid (HOP.out _ (by rw [decide_eq_false (show ¬ j ≤ 16 by omega)]; simp))
              clear HOP
              go_wp2_with fail
              refine HO.out.mono ?_
              rintro e w11 ⟨rfl, hb⟩
              have HW := hid (HWK.out w11 hb)
              clear hb HO
              go_wp2_with fail
              refine HW.out.mono ?_
              rintro e w12 ⟨rfl, hb⟩
              have HBZ := hid hb
              clear hb
              go_wp2_with fail
              go_ret
              exact ⟨rfl, HBZ.out⟩
            cases HAS with
            | false =>
              have HO : Hid (Calls Tryz.prog 20 #[.agg #[.int .u8 5, .string ⟨#[]⟩, .int .i64 0, .slice a9 4 c9], .agg #[.slice sa i sc, .slice pa j pc], .string ⟨#[116, 49, 58, 109]⟩, .int .i64 af, .int .i64 ag] wr fun e w' => e = .returned (.bool false) ∧ Below wr.heap.size wr w') := hid (HOP.out _ (by simp))
              clear HOP
              go_wp2_with fail
              refine HO.out.mono ?_
              rintro e w11 ⟨rfl, hb⟩
              have HW := hid (HWK.out w11 hb)
              clear hb HO
              go_wp2_with fail
              refine HW.out.mono ?_
              rintro e w12 ⟨rfl, hb⟩
              have HBZ := hid hb
              clear hb
              go_wp2_with fail
              go_ret
              exact ⟨rfl, HBZ.out⟩
            | true =>
              cases KN with
              | false =>
                have HO : Hid (Calls Tryz.prog 20 #[.agg #[.int .u8 5, .string ⟨#[]⟩, .int .i64 0, .slice a9 4 c9], .agg #[.slice sa i sc, .slice pa j pc], .string ⟨#[116, 49, 58, 109]⟩, .int .i64 af, .int .i64 ag] wr fun e w' => e = .returned (.bool false) ∧ Below wr.heap.size wr w') := hid (HOP.out _ (by simp))
                clear HOP
                go_wp2_with fail
                refine HO.out.mono ?_
                rintro e w11 ⟨rfl, hb⟩
                have HW := hid (HWK.out w11 hb)
                clear hb HO
                go_wp2_with fail
                refine HW.out.mono ?_
                rintro e w12 ⟨rfl, hb⟩
                have HBZ := hid hb
                clear hb
                go_wp2_with fail
                go_ret
                exact ⟨rfl, HBZ.out⟩
              | true =>
                by_cases q3 : (nn : Int) ≤ af
                rotate_left
                · have HO : Hid (Calls Tryz.prog 20 #[.agg #[.int .u8 5, .string ⟨#[]⟩, .int .i64 0, .slice a9 4 c9], .agg #[.slice sa i sc, .slice pa j pc], .string ⟨#[116, 49, 58, 109]⟩, .int .i64 af, .int .i64 ag] wr fun e w' => e = .returned (.bool false) ∧ Below wr.heap.size wr w') := hid (HOP.out _ (by simp [q3]))
                  clear HOP
                  go_wp2_with fail
                  refine HO.out.mono ?_
                  rintro e w11 ⟨rfl, hb⟩
                  have HW := hid (HWK.out w11 hb)
                  clear hb HO
                  go_wp2_with fail
                  refine HW.out.mono ?_
                  rintro e w12 ⟨rfl, hb⟩
                  have HBZ := hid hb
                  clear hb
                  go_wp2_with fail
                  go_ret
                  exact ⟨rfl, HBZ.out⟩
                by_cases q4 : (nh : Int) ≤ ag
                rotate_left
                · have HO : Hid (Calls Tryz.prog 20 #[.agg #[.int .u8 5, .string ⟨#[]⟩, .int .i64 0, .slice a9 4 c9], .agg #[.slice sa i sc, .slice pa j pc], .string ⟨#[116, 49, 58, 109]⟩, .int .i64 af, .int .i64 ag] wr fun e w' => e = .returned (.bool false) ∧ Below wr.heap.size wr w') := hid (HOP.out _ (by simp [q4]))
                  clear HOP
                  go_wp2_with fail
                  refine HO.out.mono ?_
                  rintro e w11 ⟨rfl, hb⟩
                  have HW := hid (HWK.out w11 hb)
                  clear hb HO
                  go_wp2_with fail
                  refine HW.out.mono ?_
                  rintro e w12 ⟨rfl, hb⟩
                  have HBZ := hid hb
                  clear hb
                  go_wp2_with fail
                  go_ret
                  exact ⟨by simp [q4], HBZ.out⟩
                have HO : Hid (Calls Tryz.prog 20 #[.agg #[.int .u8 5, .string ⟨#[]⟩, .int .i64 0, .slice a9 4 c9], .agg #[.slice sa i sc, .slice pa j pc], .string ⟨#[116, 49, 58, 109]⟩, .int .i64 af, .int .i64 ag] wr fun e w' => e = .returned (.bool true) ∧ Below wr.heap.size wr w') := hid (HOP.out _ (by rw [decide_eq_true (show i ≤ 16 by omega), decide_eq_true (show j ≤ 16 by omega)]; simp [q3, q4]))
                clear HOP
                go_wp2_with fail
                refine HO.out.mono ?_
                rintro e w11 ⟨rfl, hb⟩
                have HW := hid (HWK.out w11 hb)
                clear hb HO
                go_wp2_with fail
                refine HW.out.mono ?_
                rintro e w12 ⟨rfl, hb⟩
                have HBZ := hid hb
                clear hb
                go_wp2_with fail
                go_ret
                exact ⟨rfl, HBZ.out⟩
end Go.Proofs.YtdllpklecdmghaaGreatDoor
