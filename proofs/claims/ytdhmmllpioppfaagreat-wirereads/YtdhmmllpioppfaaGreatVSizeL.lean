/- How many bytes a stream has. -/
import Derived.Test.YtdhmmllpioppfaaGreatVRecs
namespace Go.Proofs.YtdhmmllpioppfaaGreat.V
open Go.RowKit

theorem stream_take (L : List Rec) (i : Nat) (h : i < L.length) : streamB (L.take (i + 1)) = streamB (L.take i) ++ recB L[i] := by
  unfold streamB
  rw [List.take_succ_eq_append_getElem h, List.map_append, List.flatten_append]
  simp
theorem stream_mono (L : List Rec) (i : Nat) : (streamB (L.take i)).length ≤ (streamB L).length := by
  have h : streamB L = streamB (L.take i) ++ streamB (L.drop i) := by
    unfold streamB
    rw [← List.flatten_append, ← List.map_append, List.take_append_drop]
  rw [h]
  simp
theorem rec_len (r : Rec) : (recB r).length = sizeN (formN r.1) + sizeN (formN r.2.length) + r.2.length := by
  unfold recB
  simp only [List.length_append, put_len]
  omega
/-- records and bodies that are no greater than memory -/
def Few (L : List Rec) : Prop := L.length ≤ 140737488355328 ∧ ∀ i (h : i < L.length), L[i].1 < 18446744073709551616 ∧ L[i].2.length ≤ 140737488355328
/-- what sizeOf answers -/
abbrev sized (S : Nat) : Ending := .returned (.tuple #[.int .i64 (if 32768 < S then 0 else (S : Int)), .int .i64 (if 32768 < S then 3 else 0)])

set_option maxRecDepth 100000 in
set_option maxHeartbeats 2000000 in
theorem sizeOf_any (w : World) (v : Value) (L : List Rec) (hL : Rcs w v L) (hf : Few L) : Calls Tryz.prog 56 #[v] w fun e w' => e = sized (streamB L).length ∧ Below w.heap.size w w' := by
  obtain ⟨ao, cap, rfl⟩ := hL.shape
  have HL := hid hL
  have HF := hid hf
  obtain ⟨S, hS⟩ : ∃ S, S = (streamB L).length := ⟨_, rfl⟩
  obtain ⟨n, hn⟩ : ∃ n, n = L.length := ⟨_, rfl⟩
  have hnm : n ≤ 140737488355328 := by rw [hn]; exact hf.1
  rw [← hS, ← hn]
  have HS := hid hS
  have HN := hid hn
  obtain ⟨A, hA⟩ : ∃ A, A = sized S := ⟨_, rfl⟩
  rw [← hA]
  have HA := hid hA
  clear hL hf hS hn hA
  go_enter Tryz.func56, Tryz.ntmps56
  go_wp2_with fail
  go_loopg [4, 6, 9] n (fun gg v4 v6 v9 wr => ∃ i : Nat, i ≤ n ∧ gg = n - i ∧ v9 = .int .i64 (i : Int) ∧ v4 = .int .i64 ((streamB (L.take i)).length : Int) ∧ (streamB (L.take i)).length ≤ 32768 ∧ Below w.heap.size w wr)
  case atStart => exact ⟨0, by omega, by omega, rfl, rfl, by simp [streamB], Below.refl _ _⟩
  case round =>
    obtain ⟨i, hi, rfl, rfl, rfl, hle, hbel⟩ := hrel
    have HBE := hid hbel
    by_cases hil : i < n
    · have hi1 : (i : Int) < (n : Int) := by omega
      have hiL : i < L.length := by rw [← HN.out]; exact hil
      obtain ⟨g, o, rfl, hg, _, hcap, hc⟩ := HL.out.at (fun e => by rw [e] at hiL; simp at hiL)
      rw [← HN.out] at hcap
      obtain ⟨bv, h1, h2, h3⟩ := hc i hiL
      have h1' : wr.cell? ⟨g, o + i * 2, none⟩ = some (.int .u64 (L[i].1 : Int)) := by rw [← h1]; exact World.cell?_of_block (hbel.block g hg)
      have h2' : wr.cell? ⟨g, o + i * 2 + 1, none⟩ = some bv := by rw [← h2]; exact World.cell?_of_block (hbel.block g hg)
      obtain ⟨ab, cb, hbv⟩ := h3.shape
      subst hbv
      have hfi := HF.out.2 i hiL
      have hb2 := hfi.2
      have hb1 := hfi.1
      have HST := hid (stream_take L i hiL)
      have HRL := hid (rec_len L[i])
      have HMO := hid (stream_mono L (i + 1))
      have hz1 := sizeN_le (formN_lt L[i].1)
      have hz2 := sizeN_le (formN_lt L[i].2.length)
      clear hc h1 h2 h3 hbel hfi
      generalize L[i] = q at *
      obtain ⟨qt, qb⟩ := q
      simp only at *
      generalize hT : (streamB (L.take i)).length = T at *
      have HT := hid hT
      generalize qb.length = m at *
      clear hT
      by_cases hbig : 32768 < m
      · have hbig' : (32768 : Int) < (m : Int) := by omega
        go_wp2_with fail
        go_ret2
        have hS : 32768 < S := by have h1 := HMO.out; have h2 := HRL.out; have h3 := HS.out; rw [HST.out, List.length_append, h2] at h1; omega
        exact ⟨by rw [HA.out]; simp [sized, hS], HBE.out.alloc HBE.out.size _⟩
      · have hbig' : ¬ (32768 : Int) < (m : Int) := by omega
        go_wp2_with fail
        have HB2 := hid (HBE.out.alloc HBE.out.size (.cells #[.int .u64 (qt : Int), .slice ab m cb] 43))
        have hc0 := heap_alloc_new wr (.cells #[.int .u64 (qt : Int), .slice ab m cb] 43)
        generalize wr.alloc (.cells #[.int .u64 (qt : Int), .slice ab m cb] 43) = w2 at *
        have hd0 : w2.cell? ⟨wr.heap.size, 0, none⟩ = some (.int .u64 (qt : Int)) := by rw [cell_of_heap hc0]; rfl
        have hd1 : w2.cell? ⟨wr.heap.size, 1, none⟩ = some (.slice ab m cb) := by rw [cell_of_heap hc0]; rfl
        have hmw : IntKind.u64.wrap (m : Int) = (m : Int) := by rw [IntKind.wrap_u64]; omega
        clear hc0 h1' h2' HBE
        go_quiet (first | (go_at_call 70; exact Calls.quiet_of_same (formOf_any _ _)) | (go_at_call 71; exact Calls.quiet_of_same (size_any _ (formN_lt _) _)))
        have HB3 : Hid (Below w.heap.size w (w2.drewN nq)) := hid ⟨HB2.out.os, HB2.out.tape, HB2.out.output, HB2.out.size, HB2.out.block⟩
        generalize w2.drewN nq = w3 at *
        clear hd0 hd1 hmw HB2
        generalize hZ1 : sizeN (formN qt) = z1 at *
        generalize hZ2 : sizeN (formN m) = z2 at *
        have HNX : Hid ((streamB (L.take (i + 1))).length = T + (z1 + z2 + m)) := hid (by rw [HST.out, List.length_append, HT.out, HRL.out])
        by_cases hlim : 32768 < T + (z1 + z2 + m)
        · have hlim' : (32768 : Int) < (T : Int) + ((z1 : Int) + (z2 : Int) + (m : Int)) := by omega
          go_wp2_with fail
          go_ret2
          have hS : 32768 < S := by have h1 := HMO.out; have h3 := HS.out; have h4 := HNX.out; omega
          exact ⟨by rw [HA.out]; simp [sized, hS], HB3.out⟩
        · have hlim' : ¬ (32768 : Int) < (T : Int) + ((z1 : Int) + (z2 : Int) + (m : Int)) := by omega
          go_wp2_with fail
          go_roundg (n - (i + 1))
          case measure => omega
          case rel => exact ⟨i + 1, by omega, rfl, by go_num, by rw [HNX.out]; go_num, by rw [HNX.out]; omega, HB3.out⟩
    · have e : i = n := by omega
      subst e
      have HTL : Hid (L.take i = L) := by apply hid; rw [HN.out]; simp
      rw [HTL.out] at hle ⊢
      go_wp2_with fail
      go_ret2
      have hS : ¬ 32768 < S := by rw [HS.out]; omega
      exact ⟨by rw [HA.out]; simp only [sized, if_neg hS]; rw [HS.out]; rfl, HBE.out⟩
end Go.Proofs.YtdhmmllpioppfaaGreat.V
