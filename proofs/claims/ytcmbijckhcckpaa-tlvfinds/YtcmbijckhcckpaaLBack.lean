/- The law TlvBack. -/
import Derived.Test.YtcmbijckhcckpaaSame
namespace Go.Proofs.Ytcmbijckhcckpaa
open Go.RowKit

theorem stream_err {L : List Rec} {c : Bs} {e : Nat} (h : streamR L = (c, e)) (he : e ≠ 0) : c = [] := by
  unfold streamR at h
  split at h
  · cases h; rfl
  · split at h
    · cases h; rfl
    · split at h
      · cases h; rfl
      · cases h; exact absurd rfl he
theorem body_le {L : List Rec} {r : Rec} (h : r ∈ L) : r.2.length ≤ (streamB L).length := by
  induction L with
  | nil => cases h
  | cons a L ih =>
    have e : streamB (a :: L) = recB a ++ streamB L := by simp [streamB]
    rw [e, List.length_append]
    rcases List.mem_cons.1 h with h | h
    · subst h
      rw [rec_len]
      omega
    · have := ih h
      omega
theorem recs_few {b : Bs} {m : List Rec} (h : recsB b = (m, 0)) : Few m ∧ m.length ≤ 64 := by
  unfold recsB at h
  split at h
  · cases h
  · rename_i hb
    obtain ⟨l, h1, h2, _, h4, h5⟩ := recs_got _ _ _ _ (Nat.le_refl _) h
    simp only [List.nil_append] at h1
    subst h1
    have h6 := h4 (by simp)
    refine ⟨⟨by omega, fun i hi => ⟨(h5 _ (List.getElem_mem hi)).1, ?_⟩⟩, h6⟩
    have := body_le (List.getElem_mem hi)
    rw [h2] at this
    omega

set_option maxRecDepth 100000 in
set_option maxHeartbeats 4000000 in
/-- what is behind the first half -/
theorem back_any (w : World) (v u : Value) (L : List Rec) (b : Bs) (hL : Rcs w v L) (ht : ∀ i (h : i < L.length), L[i].1 < 18446744073709551616) (hb : Sl w u b) :
    Calls Try.prog 6 #[v, u] w fun e w' => e = .returned (.bool true) ∧ Below w.heap.size w w' := by
  obtain ⟨al, cl, rfl⟩ := hL.shape
  obtain ⟨ab, cb, rfl⟩ := hb.shape
  have HL := hid hL
  have HB := hid hb
  have HT := hid ht
  have HSZ := hid (rsize_any w _ L hL)
  obtain ⟨n, hn⟩ : ∃ n, n = L.length := ⟨_, rfl⟩
  obtain ⟨m, hm⟩ : ∃ m, m = b.length := ⟨_, rfl⟩
  rw [← hn, ← hm]
  rw [← hn] at HSZ
  have HN := hid hn
  have HM := hid hm
  clear hL hb ht hn hm
  go_enter Try.func6, Try.ntmps6
  go_wp2_with fail
  refine HSZ.out.mono ?_
  rintro e w1 ⟨r, rfl, hr, hw1⟩
  subst hw1
  have HR := hid hr
  clear hr HSZ
  by_cases hr3 : r ≤ 3000
  · have hr1 : ¬ (3000 : Int) < (r : Int) := by omega
    have hr2 : decide ((3000 : Int) < (r : Int)) = false := by simpa using hr1
    by_cases hm3 : m ≤ 3000
    · have hm1 : ¬ (3000 : Int) < (m : Int) := by omega
      have hsm := HR.out hr3
      have hfw := hsm.few HT.out
      have HFW := hid hfw
      have HST := hid (stream_any w1 _ L HL.out hfw)
      generalize hsr : streamR L = sr at *
      have HSR := hid hsr
      obtain ⟨c, ec⟩ := sr
      rw [← HN.out] at HST
      simp only [streamed] at HST
      have HREC := hid (fun W hb' => records_any W _ b (HB.out.below (w' := W) hb') (by rw [← HM.out]; omega))
      rw [← HM.out] at HREC
      generalize hrb : recsB b = rb at *
      have HRB := hid hrb
      obtain ⟨mm, em⟩ := rb
      simp only [recorded] at HREC
      clear hsm hfw hsr hrb
      obtain ⟨cln, hcln⟩ : ∃ k, k = c.length := ⟨_, rfl⟩
      obtain ⟨mln, hmln⟩ : ∃ k, k = mm.length := ⟨_, rfl⟩
      rw [← hcln] at HST
      rw [← hmln] at HREC
      have HCL := hid hcln
      have HML := hid hmln
      clear hcln hmln
      -- the second half, from any world behind
      have HALF : Hid (∀ W, Below w1.heap.size w1 W → Calls Try.prog 19 #[.slice ab m cb] W fun e w' => ∃ ao cap, e = .returned (.tuple #[.slice ao mln cap, .int .i64 (em : Int)]) ∧ Ro W.heap.size w' (.slice ao mln cap) mm ∧ Below W.heap.size W w') := hid (fun W hb' => HREC.out W hb')
      clear HREC
      by_cases he : ec = 0
      · subst he
        have HBT : Hid (recsB c = (L, 0)) := hid (back_there (fun r hr => by
          obtain ⟨i, hi, rfl⟩ := List.getElem_of_mem hr
          have := HFW.out.2 i hi
          exact ⟨this.1, by omega⟩) HSR.out)
        go_wp2_with fail
        refine HST.out.mono ?_
        rintro e w2 ⟨ac, cc, rfl, ho2, hb2⟩
        have HSL := hid (Sl.own ho2 HCL.out)
        have HB2 := hid hb2
        have HR2 := hid (records_any w2 _ c HSL.out (by
          have h1 := HSR.out
          unfold streamR at h1
          split at h1
          · cases h1
          · split at h1
            · cases h1
            · split at h1
              · cases h1
              · cases h1; omega))
        rw [HBT.out] at HR2
        simp only [recorded] at HR2
        rw [← HN.out] at HR2
        clear ho2 hb2 HST
        go_wp2_with fail
        refine HR2.out.mono ?_
        rintro e w3 ⟨a3, c3, rfl, ho3, hb3⟩
        have HB3 := hid (two_below HB2.out hb3)
        have HSA := hid (same_yes w3 _ _ L ho3.rcs (HL.out.below HB3.out) (by rw [← HN.out]; have := (HR.out hr3).1; have := HN.out; omega))
        rw [← HN.out] at HSA
        clear ho3 hb3 HR2 HB2 HSL
        go_wp2_with fail
        refine HSA.out.mono ?_
        rintro e w4 ⟨rfl, hb4⟩
        have HB4 := hid (two_below HB3.out hb4)
        clear hb4 HSA HB3
        go_wp2_with fail
        refine (HALF.out _ HB4.out).mono ?_
        rintro e w5 ⟨a5, c5, rfl, ho5, hb5⟩
        have HB5 := hid (two_below HB4.out hb5)
        have HO5 := hid ho5
        clear ho5 hb5 HALF HB4
        by_cases hem : em = 0
        · subst hem
          have HSB : Hid (streamR mm = (b, 0)) := hid (there_back HRB.out)
          have HS6 := hid (stream_any w5 _ mm HO5.out.rcs (recs_few HRB.out).1)
          rw [HSB.out] at HS6
          simp only [streamed] at HS6
          rw [← HM.out] at HS6
          go_wp2_with fail
          refine HS6.out.mono ?_
          rintro e w6 ⟨a6, c6, rfl, ho6, hb6⟩
          have HB6 := hid (two_below HB5.out hb6)
          have q1 := (Sl.own ho6 HM.out).string
          have q2 := (HB.out.below HB6.out).string
          rw [← HM.out] at q2
          clear ho6 hb6 HS6 HB5 HO5
          go_wp2_with fail
          refine (works_any _).mono ?_
          rintro e w7 ⟨rfl, hb7⟩
          have HB7 := hid (two_below HB6.out hb7)
          clear hb7
          go_wp2_with fail
          go_ret
          exact ⟨rfl, HB7.out⟩
        · have hem' : ((em : Int) == 0) = false := by simpa using hem
          have hml0 : mln = 0 := by rw [HML.out, recs_err HRB.out hem]; rfl
          subst hml0
          go_wp2_with fail
          refine (works_any _).mono ?_
          rintro e w7 ⟨rfl, hb7⟩
          have HB7 := hid (two_below HB5.out hb7)
          clear hb7
          go_wp2_with fail
          go_ret
          exact ⟨rfl, HB7.out⟩
      · have hec : ((ec : Int) == 0) = false := by simpa using he
        have hcl0 : cln = 0 := by rw [HCL.out, stream_err HSR.out he]; rfl
        subst hcl0
        go_wp2_with fail
        refine HST.out.mono ?_
        rintro e w4 ⟨ac, cc, rfl, ho2, hb2⟩
        have HB4 := hid hb2
        clear ho2 hb2 HST
        go_wp2_with fail
        refine (HALF.out _ HB4.out).mono ?_
        rintro e w5 ⟨a5, c5, rfl, ho5, hb5⟩
        have HB5 := hid (two_below HB4.out hb5)
        have HO5 := hid ho5
        clear ho5 hb5 HALF HB4
        by_cases hem : em = 0
        · subst hem
          have HSB : Hid (streamR mm = (b, 0)) := hid (there_back HRB.out)
          have HS6 := hid (stream_any w5 _ mm HO5.out.rcs (recs_few HRB.out).1)
          rw [HSB.out] at HS6
          simp only [streamed] at HS6
          rw [← HM.out] at HS6
          go_wp2_with fail
          refine HS6.out.mono ?_
          rintro e w6 ⟨a6, c6, rfl, ho6, hb6⟩
          have HB6 := hid (two_below HB5.out hb6)
          have q1 := (Sl.own ho6 HM.out).string
          have q2 := (HB.out.below HB6.out).string
          rw [← HM.out] at q2
          clear ho6 hb6 HS6 HB5 HO5
          go_wp2_with fail
          refine (works_any _).mono ?_
          rintro e w7 ⟨rfl, hb7⟩
          have HB7 := hid (two_below HB6.out hb7)
          clear hb7
          go_wp2_with fail
          go_ret
          exact ⟨rfl, HB7.out⟩
        · have hem' : ((em : Int) == 0) = false := by simpa using hem
          have hml0 : mln = 0 := by rw [HML.out, recs_err HRB.out hem]; rfl
          subst hml0
          go_wp2_with fail
          refine (works_any _).mono ?_
          rintro e w7 ⟨rfl, hb7⟩
          have HB7 := hid (two_below HB5.out hb7)
          clear hb7
          go_wp2_with fail
          go_ret
          exact ⟨rfl, HB7.out⟩
    · have hm1 : (3000 : Int) < (m : Int) := by omega
      go_wp2_with fail
      refine (works_any _).mono ?_
      rintro e w2 ⟨rfl, hb2⟩
      have HB2 := hid hb2
      clear hb2
      go_wp2_with fail
      go_ret
      exact ⟨rfl, HB2.out⟩
  · have hr1 : (3000 : Int) < (r : Int) := by omega
    go_wp2_with fail
    refine (works_any _).mono ?_
    rintro e w2 ⟨rfl, hb2⟩
    have HB2 := hid hb2
    clear hb2
    go_wp2_with fail
    go_ret
    exact ⟨rfl, HB2.out⟩
end Go.Proofs.Ytcmbijckhcckpaa
