/- Stream. -/
import Derived.Test.YtdhmmllpioppfaaGreatVSizeL
namespace Go.Proofs.YtdhmmllpioppfaaGreat.V
open Go.RowKit

theorem riseAll_iff (a l : List Rec) : riseAll a l = true ↔ ∀ i (h : i < l.length), risesB (a ++ l.take i) l[i].1 = true := by
  induction l generalizing a with
  | nil => simp [riseAll]
  | cons r l ih =>
    rw [riseAll, Bool.and_eq_true, ih]
    constructor
    · rintro ⟨h1, h2⟩ i hi
      cases i with
      | zero => simpa using h1
      | succ i => have := h2 i (by simpa using hi); simpa using this
    · intro h
      refine ⟨by have := h 0 (by simp); simp only [List.take_zero, List.append_nil] at this; exact this, fun i hi => ?_⟩
      have := h (i + 1) (by simpa using hi)
      simpa using this
/-- what Stream answers -/
abbrev streamed (ao : Option Addr) (cap : Nat) (s : Bs × Nat) : Ending := .returned (.tuple #[.slice ao s.1.length cap, .int .i64 (s.2 : Int)])
theorem own_none (w : World) (B : Nat) : w.ownsRow B 5 1 (.slice none 0 0) 0 (bcs []) := World.ownsRow_nil _ _ _ _
theorem below_drewN {B : Nat} {w0 w : World} (h : Below B w0 w) (n : Nat) : Below B w0 (w.drewN n) := ⟨h.os, h.tape, h.output, h.size, h.block⟩

set_option maxRecDepth 100000 in
set_option maxHeartbeats 4000000 in
theorem stream_any (w : World) (v : Value) (L : List Rec) (hL : Rcs w v L) (hf : Few L) : Calls Tryz.prog 38 #[v] w fun e w' => ∃ ao cap, e = streamed ao cap (streamR L) ∧ w'.ownsRow w.heap.size 5 1 (.slice ao (streamR L).1.length cap) (streamR L).1.length (bcs (streamR L).1) ∧ Below w.heap.size w w' := by
  obtain ⟨ao, cap, rfl⟩ := hL.shape
  have HL := hid hL
  have HF := hid hf
  obtain ⟨A, hA⟩ : ∃ A, A = streamR L := ⟨_, rfl⟩
  rw [← hA]
  have HA := hid hA
  obtain ⟨n, hn⟩ : ∃ n, n = L.length := ⟨_, rfl⟩
  have hnm : n ≤ 140737488355328 := by rw [hn]; exact hf.1
  rw [← hn]
  have HN := hid hn
  clear hL hf hA hn
  by_cases h64 : 64 < n
  · have HAE : Hid (A = ([], 3)) := hid (by rw [HA.out]; unfold streamR; rw [if_pos (by rw [← HN.out]; exact h64)])
    have h64' : (64 : Int) < (n : Int) := by omega
    go_enter Tryz.func38, Tryz.ntmps38
    go_wp2_with fail
    go_ret2
    refine ⟨none, 0, ?_⟩
    rw [HAE.out]
    exact ⟨rfl, own_none _ _, Below.refl _ _⟩
  · have h64' : ¬ (64 : Int) < (n : Int) := by omega
    go_enter Tryz.func38, Tryz.ntmps38
    go_wp2_with fail
    go_loopg [4, 5, 16] n (fun gg v4 v5 v16 wr => ∃ i : Nat, i ≤ n ∧ gg = n - i ∧ v16 = .int .i64 (i : Int) ∧ (∀ j (h : j < L.length), j < i → risesB (L.take j) L[j].1 = true) ∧ Below w.heap.size w wr)
    case atStart => exact ⟨0, by omega, by omega, rfl, fun j h hj => by omega, Below.refl _ _⟩
    case round =>
      obtain ⟨i, hi, rfl, rfl, hri, hbel⟩ := hrel
      have HBE := hid hbel
      have HRI := hid hri
      clear hri
      by_cases hil : i < n
      · have hi1 : (i : Int) < (n : Int) := by omega
        have hiL : i < L.length := by rw [← HN.out]; exact hil
        have HLT := hid ((HL.out.below hbel).take i (by omega))
        obtain ⟨g, o, rfl, hg, _, hcap, hc⟩ := HL.out.at (fun e => by rw [e] at hiL; simp at hiL)
        rw [← HN.out] at hcap
        obtain ⟨bv, h1, h2, h3⟩ := hc i hiL
        have h1' : wr.cell? ⟨g, o + i * 2, none⟩ = some (.int .u64 (L[i].1 : Int)) := by rw [← h1]; exact World.cell?_of_block (hbel.block g hg)
        have h2' : wr.cell? ⟨g, o + i * 2 + 1, none⟩ = some bv := by rw [← h2]; exact World.cell?_of_block (hbel.block g hg)
        obtain ⟨ab, cb, hbv⟩ := h3.shape
        subst hbv
        have hb1 := (HF.out.2 i hiL).1
        generalize hq : L[i] = q at *
        have HQ := hid hq
        obtain ⟨qt, qb⟩ := q
        simp only at *
        clear hq hc h1 h2 h3 hbel
        generalize qb.length = m at *
        have hic : (i : Int) ≤ (cap : Int) := by omega
        have HLW := hid (HLT.out.below ((Below.refl _ wr).alloc (Nat.le_refl _) (.cells #[.int .u64 (qt : Int), .slice ab m cb] 43)))
        go_wp2_with fail
        have HB2 := hid (HBE.out.alloc HBE.out.size (.cells #[.int .u64 (qt : Int), .slice ab m cb] 43))
        have hc0 := heap_alloc_new wr (.cells #[.int .u64 (qt : Int), .slice ab m cb] 43)
        generalize wr.alloc (.cells #[.int .u64 (qt : Int), .slice ab m cb] 43) = w2 at *
        have hd0 : w2.cell? ⟨wr.heap.size, 0, none⟩ = some (.int .u64 (qt : Int)) := by rw [cell_of_heap hc0]; rfl
        have HRC := hid (fun k => rises_any (w2.drewN k) (.slice (some ⟨g, o, none⟩) i cap) (L.take i) (HLW.out.below (below_drewN (Below.refl _ _) k)) qt (by simp; omega))
        clear hc0 h1' h2' HBE HLT HLW
        generalize hrb : risesB (L.take i) qt = rb at *
        have HRB := hid hrb
        clear hrb
        go_quiet (first | (go_at_call 55; exact Calls.quiet_of_same (HRC.out _)))
        have HB3 := hid (below_drewN HB2.out nq)
        generalize w2.drewN nq = w3 at *
        clear HB2 hd0 HRC
        cases rb with
        | false =>
          go_wp2_with fail
          go_ret2
          have hAE : A = ([], 50) := by
            rw [HA.out]
            unfold streamR
            rw [if_neg (by rw [← HN.out]; exact h64), if_pos]
            cases hra : riseAll [] L with
            | false => rfl
            | true =>
              have := (riseAll_iff [] L).1 hra i hiL
              simp only [List.nil_append] at this
              rw [HQ.out] at this
              rw [show (qt, qb).1 = qt by rfl, HRB.out] at this
              cases this
          refine ⟨none, 0, ?_⟩
          rw [hAE]
          exact ⟨rfl, own_none _ _, HB3.out⟩
        | true =>
          go_wp2_with fail
          go_roundg (n - (i + 1))
          case measure => omega
          case rel =>
            refine ⟨i + 1, by omega, rfl, by go_num, fun j h hj => ?_, HB3.out⟩
            by_cases e : j = i
            · subst e; rw [HQ.out]; exact HRB.out
            · exact HRI.out j h (by omega)
      · have HALL : Hid (riseAll [] L = true) := hid ((riseAll_iff [] L).2 (fun j h => by
          simp only [List.nil_append]
          exact HRI.out j h (by have := HN.out; omega)))
        have HSZ := hid (sizeOf_any wr _ L (HL.out.below hbel) HF.out)
        rw [← HN.out] at HSZ
        have HAE : Hid (A = if 32768 < (streamB L).length then ([], 3) else (streamB L, 0)) := hid (by
          rw [HA.out]
          unfold streamR
          rw [if_neg (by rw [← HN.out]; exact h64), if_neg (by rw [HALL.out]; decide)])
        obtain ⟨w1, rfl⟩ : ∃ w1, w1 = wr := ⟨_, rfl⟩
        clear hbel HRI HALL
        generalize hS : (streamB L).length = S at *
        have HS := hid hS
        clear hS
        by_cases hlim : 32768 < S
        · rw [if_pos hlim] at HAE
          have HSX : Hid (sized S = .returned (.tuple #[.int .i64 0, .int .i64 3])) := hid (by simp only [sized, if_pos hlim])
          rw [HSX.out] at HSZ
          go_wp2_with fail
          refine HSZ.out.mono ?_
          rintro e w2 ⟨rfl, hb2⟩
          have HB2 := hid (HBE.out.trans (hb2.mono HBE.out.size))
          clear hb2 HSZ
          go_wp2_with fail
          go_ret2
          refine ⟨none, 0, ?_⟩
          rw [HAE.out]
          exact ⟨rfl, own_none _ _, HB2.out⟩
        · rw [if_neg hlim] at HAE
          have HSX : Hid (sized S = .returned (.tuple #[.int .i64 (S : Int), .int .i64 0])) := hid (by simp only [sized, if_neg hlim])
          rw [HSX.out] at HSZ
          go_wp2_with fail
          refine HSZ.out.mono ?_
          rintro e w2 ⟨rfl, hb2⟩
          have HB2 := hid (HBE.out.trans (hb2.mono HBE.out.size))
          clear hb2 HSZ
          obtain ⟨i0, hi0, hz0, hz1, hz2⟩ := info_get Tryz.info5
          have Hb2 : Hid (i0.bytes * S ≤ 281474976710656) := hid (by rw [hz2]; omega)
          have Hb3 : Hid (S ≤ maxLen) := hid (by unfold maxLen; omega)
          have hsz := HB2.out.size
          go_wp2_with (first | (at_make; refine wpList_make_own _ rfl _ (.tmp 37) 33 rfl w.heap.size 5 i0 (.int .u8 0) 1 Tryz.underlying33 hi0 hz0 hz1 .i64 .i64 _ S rfl rfl rfl Hb2.out Hb3.out hsz ?_; intro w3 hown3 hg3; have HO3 := hid hown3; have HG3 := hid hg3; clear hown3 hg3) | fail)
          have HB3 := hid (HB2.out.grown HG3.out HB2.out.size (fun k h => by cases h))
          have HRW : Hid (Rw w.heap.size w3.heap.size [] (w3.alloc (.cells #[.slice (some ⟨w2.heap.size, 0, none⟩) 0 S] 98))) := hid ⟨HB3.out.size, _, heap_alloc_new w3 _, HO3.out.alloc _⟩
          have HB4 := hid (HB3.out.alloc HB3.out.size (.cells #[.slice (some ⟨w2.heap.size, 0, none⟩) 0 S] 98))
          clear HB3 HG3 HO3 HB2 hsz Hb2 Hb3 hz0 hz1 hz2 hi0 i0 HBE HSX hi hil
          go_loopg [10, 42] n (fun gg v10 v42 wr => ∃ i : Nat, i ≤ n ∧ gg = n - i ∧ v42 = .int .i64 (i : Int) ∧ Rw w.heap.size w3.heap.size (streamB (L.take i)) wr ∧ Below w.heap.size w wr)
          case atStart => exact ⟨0, by omega, by omega, rfl, HRW.out, HB4.out⟩
          case round =>
            obtain ⟨i, hi, rfl, rfl, hrw, hbel⟩ := hrel
            have HR := hid hrw
            have HBE := hid hbel
            clear hrw HRW HB4
            by_cases hil : i < n
            · have hi1 : (i : Int) < (n : Int) := by omega
              have hiL : i < L.length := by rw [← HN.out]; exact hil
              obtain ⟨g, o, rfl, hg, _, hcap, hc⟩ := HL.out.at (fun e => by rw [e] at hiL; simp at hiL)
              rw [← HN.out] at hcap
              obtain ⟨bv, h1, h2, h3⟩ := hc i hiL
              have h1' : wr.cell? ⟨g, o + i * 2, none⟩ = some (.int .u64 (L[i].1 : Int)) := by rw [← h1]; exact World.cell?_of_block (hbel.block g hg)
              have h2' : wr.cell? ⟨g, o + i * 2 + 1, none⟩ = some bv := by rw [← h2]; exact World.cell?_of_block (hbel.block g hg)
              obtain ⟨ab, cb, hbv⟩ := h3.shape
              subst hbv
              have HSL := hid h3
              have HB1 := hid (HF.out.2 i hiL)
              have HST := hid (stream_take L i hiL)
              have HMO := hid (stream_mono L (i + 1))
              have HRL := hid (rec_len L[i])
              generalize L[i] = q at *
              obtain ⟨qt, qb⟩ := q
              simp only at *
              clear hc h1 h2 h3 hbel
              have HLE : Hid ((streamB (L.take i)).length + (sizeN (formN qt) + sizeN (formN qb.length) + qb.length) ≤ 32768) := hid (by
                have h1 := HMO.out
                rw [HST.out, List.length_append, HRL.out, HS.out] at h1
                omega)
              have HRA := hid (HR.out.alloc (.cells #[.int .u64 (qt : Int), .slice ab qb.length cb] 43))
              have HBA := hid (HBE.out.alloc HBE.out.size (.cells #[.int .u64 (qt : Int), .slice ab qb.length cb] 43))
              have hc0 := heap_alloc_new wr (.cells #[.int .u64 (qt : Int), .slice ab qb.length cb] 43)
              have hszr := HBE.out.size
              have HLT := hid HR.out.lt
              obtain ⟨m, hm⟩ : ∃ m, m = qb.length := ⟨_, rfl⟩
              rw [← hm] at h2' HRA HBA hc0
              have HM := hid hm
              have hml : m ≤ 32768 := by have := HLE.out; omega
              clear hm
              go_wp2_with fail
              generalize wr.alloc (.cells #[.int .u64 (qt : Int), .slice ab m cb] 43) = w5 at *
              have HC0 := hid hc0
              have hlt5 := lt_of_block hc0
              have HLTP : Hid (wr.heap.size ≠ w3.heap.size) := hid (by have := HLT.out; omega)
              have HNB : Hid (∀ cs fr, w5.heap[wr.heap.size]? ≠ some (.cells cs 5 fr)) := hid (fun cs fr => by rw [HC0.out]; intro e; cases e)
              clear hc0 h1' h2'
              refine (putNumber_any qt HRA.out HB1.out.1 (by have := HLE.out; omega)).mono ?_
              rintro e w6 ⟨rfl, hr6, hb6, hk6⟩
              have HR6 := hid hr6
              have HB6 := hid (HBA.out.trans hb6)
              have hc6 : w6.heap[wr.heap.size]? = some (.cells #[.int .u64 (qt : Int), .slice ab m cb] 43 (0, 0)) := (hk6.2 _ hlt5 HLTP.out HNB.out).trans HC0.out
              have HC6 := hid hc6
              have hd6 : w6.cell? ⟨wr.heap.size, 1, none⟩ = some (.slice ab m cb) := by rw [cell_of_heap hc6]; rfl
              have hlt6 := lt_of_block hc6
              have hmw : IntKind.u64.wrap (m : Int) = (m : Int) := by rw [IntKind.wrap_u64]; omega
              clear hr6 hb6 hk6 hc6 HRA HBA HC0 HNB hlt5
              go_wp2_with fail
              refine (putNumber_any m HR6.out (by omega) (by have h1 := HLE.out; have h2 := put_len qt; simp only [List.length_append]; omega)).mono ?_
              rintro e w7 ⟨rfl, hr7, hb7, hk7⟩
              have HR7 := hid hr7
              have HB7 := hid (HB6.out.trans hb7)
              have hc7 : w7.heap[wr.heap.size]? = some (.cells #[.int .u64 (qt : Int), .slice ab m cb] 43 (0, 0)) := (hk7.2 _ hlt6 HLTP.out (fun cs fr => by rw [HC6.out]; intro e; cases e)).trans HC6.out
              have hd7 : w7.cell? ⟨wr.heap.size, 1, none⟩ = some (.slice ab m cb) := by rw [cell_of_heap hc7]; rfl
              clear hr7 hb7 hk7 hc7 HR6 HB6 HC6 hd6 hlt6 hmw
              go_wp2_with fail
              have HSV : Hid (Sl w7 (.slice ab m cb) qb) := hid (by rw [HM.out]; exact HSL.out.below HB7.out)
              refine (put_any HR7.out HSV.out (by have h1 := HLE.out; have h2 := put_len qt; have h3 := put_len m; have h4 := HM.out; rw [← h4] at h1; simp only [List.length_append]; omega)).mono ?_
              rintro e w8 ⟨rfl, hr8, hb8, _⟩
              have HR8 := hid hr8
              have HB8 := hid (HB7.out.trans hb8)
              clear hr8 hb8 HR7 HB7 hd7
              go_wp2_with fail
              go_roundg (n - (i + 1))
              case measure => omega
              case rel =>
                refine ⟨i + 1, by omega, rfl, by go_num, ?_, HB8.out⟩
                rw [HST.out]
                have h8 := HR8.out
                unfold recB
                simp only [← HM.out]
                simpa using h8
            · have e : i = n := by omega
              subst e
              have HTL : Hid (L.take i = L) := by apply hid; rw [HN.out]; simp
              have hr9 := HR.out
              rw [HTL.out] at hr9
              obtain ⟨v9, h91, h92⟩ := hr9.blk
              obtain ⟨a9, c9, hv9⟩ : ∃ av cv, v9 = .slice av (streamB L).length cv := by
                rcases h92.2 with ⟨h3, h4⟩ | ⟨g, cap, _, h3, _⟩
                · rw [h4]; exact ⟨_, _, h3⟩
                · exact ⟨_, _, h3⟩
              subst hv9
              rw [HS.out] at h91 h92
              have hd9 : wr.cell? ⟨w3.heap.size, 0, none⟩ = some (.slice a9 S c9) := by rw [cell_of_heap h91]; rfl
              have H92 := hid h92
              have HAE2 : Hid (A = (streamB L, 0)) := HAE
              clear hr9 h91 h92 hbel
              go_wp2_with fail
              go_ret2
              refine ⟨a9, c9, ?_⟩
              rw [HAE2.out]
              simp only [streamed, HS.out]
              exact ⟨rfl, H92.out, HBE.out⟩
end Go.Proofs.YtdhmmllpioppfaaGreat.V
