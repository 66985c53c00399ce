/- Records in memory of their own. -/
import Derived.Test.YtcmbijckhcckpaaRRec
namespace Go.Proofs.Ytcmbijckhcckpaa
open Go.RowKit

theorem take_snoc (L : List Rec) (i : Nat) (h : i < L.length) : L.take (i + 1) = L.take i ++ [L[i]] := List.take_succ_eq_append_getElem h

set_option maxRecDepth 100000 in
set_option maxHeartbeats 4000000 in
theorem lent_any (w : World) (v : Value) (L : List Rec) (hL : Rcs w v L) (hs : Sm L) : Calls Try.prog 16 #[v] w fun e w' => ∃ ao cap, e = .returned (.slice ao L.length cap) ∧ Ro w.heap.size w' (.slice ao L.length cap) L ∧ Below w.heap.size w w' := by
  obtain ⟨ao, cap, rfl⟩ := hL.shape
  have HL := hid hL
  have HS := hid hs
  obtain ⟨n, hn⟩ : ∃ n, n = L.length := ⟨_, rfl⟩
  have hn3 : n ≤ 3000 := by rw [hn]; exact hs.1
  rw [← hn]
  have HN := hid hn
  clear hL hs hn
  go_enter Try.func16, Try.ntmps16
  go_wp2_with fail
  go_loopg [3, 4, 5] n (fun gg v3 v4 v5 wr => ∃ (i : Nat) (ar : Option Addr) (cr : Nat), i ≤ n ∧ gg = n - i ∧ v4 = .int .i64 (i : Int) ∧ v3 = .slice ar i cr ∧ Ro w.heap.size wr (.slice ar i cr) (L.take i) ∧ Below w.heap.size w wr)
  case atStart => exact ⟨0, none, 0, by omega, by omega, rfl, rfl, Ro.nil _ _, Below.refl _ _⟩
  case round =>
    obtain ⟨i, ar, cr, hi, rfl, rfl, rfl, hro, hbel⟩ := hrel
    have HR := hid hro
    have HBE := hid hbel
    clear hro
    by_cases hil : i < n
    · have hi1 : (i : Int) < (n : Int) := by omega
      have hiL : i < L.length := by rw [← HN.out]; exact hil
      have hne : L ≠ [] := fun e => by rw [e] at hiL; simp at hiL
      obtain ⟨g, o, hao, hg, _, hcap, hc⟩ := HL.out.at hne
      subst hao
      rw [← HN.out] at hcap
      obtain ⟨bv, h1, h2, h3⟩ := hc i hiL
      have HC1 : Hid (∀ W, Below w.heap.size w W → W.cell? ⟨g, o + i * 2, none⟩ = some (.int .u64 (L[i].1 : Int))) := hid (fun W hb => by rw [← h1]; exact World.cell?_of_block (hb.block g hg))
      have HC2 : Hid (∀ W, Below w.heap.size w W → W.cell? ⟨g, o + i * 2 + 1, none⟩ = some bv) := hid (fun W hb => by rw [← h2]; exact World.cell?_of_block (hb.block g hg))
      obtain ⟨ab, cb, hbv⟩ := h3.shape
      subst hbv
      have HSL := hid h3
      have HB3 := hid (HS.out.2 i hiL)
      have HTS := hid (take_snoc L i hiL)
      have HTL : Hid ((L.take i).length = i) := hid (by simp; omega)
      generalize L[i] = q at *
      obtain ⟨qt, qb⟩ := q
      simp only at *
      clear hc h1 h2 h3
      obtain ⟨a5, c5, w5, hrun5, hown5, hg5⟩ := append_bytes (own_none wr w.heap.size) (HSL.out.below hbel) (by have := HB3.out; simp; omega) hbel.size
      rw [List.nil_append] at hrun5 hown5
      have HB5 := hid (HBE.out.grown hg5 HBE.out.size (fun k h => by cases h))
      have hbl5 : Below wr.heap.size wr w5 := ⟨hg5.os, hg5.tape, hg5.output, hg5.size, fun k hk => hg5.block k hk (fun e => by cases e)⟩
      have hro5 := HR.out.below hbl5
      obtain ⟨a6, c6, w6, hrun6, hro6, hb6⟩ := append_rec (t := qt) hro5 hown5 (one_slice _ _ _) (by rw [HTL.out]; omega) HB5.out.size
      rw [HTL.out] at hrun6 hro6
      rw [← HTS.out] at hro6
      have HRUN5 := hid hrun5
      have HRUN6 := hid hrun6
      have HRO6 := hid hro6
      have HB6 := hid (HB5.out.trans hb6)
      have hc2 := HC2.out wr HBE.out
      have hc1 := HC1.out w5 HB5.out
      obtain ⟨m, hm⟩ : ∃ m, m = qb.length := ⟨_, rfl⟩
      rw [← hm] at hc2 HRUN5 HRUN6
      clear hrun5 hown5 hg5 hbl5 hro5 hrun6 hro6 hb6 hbel hm
      go_wp2_with (first | (at_builtin; refine wpList_append_run rfl (.tmp 12) (.tmp 17) 23 rfl (.slice none 0 0) (.slice ab m cb) (.slice a5 m c5) w5 rfl rfl HRUN5.out ?_) | (at_builtin; refine wpList_append_run rfl (.tmp 19) (.tmp 27) 30 rfl (.slice ar i cr) (.slice (some ⟨w5.heap.size, 0, none⟩) 1 1) (.slice a6 (i + 1) c6) w6 rfl rfl HRUN6.out ?_) | fail)
      go_roundg (n - (i + 1))
      case measure => omega
      case rel => exact ⟨i + 1, a6, c6, by omega, rfl, by go_num, rfl, HRO6.out, HB6.out⟩
    · have e : i = n := by omega
      subst e
      have HTK : Hid (L.take i = L) := by apply hid; rw [HN.out]; simp
      have hr9 := HR.out
      rw [HTK.out] at hr9
      have HR9 := hid hr9
      clear hr9 hbel
      go_wp2_with fail
      go_ret
      exact ⟨ar, cr, rfl, HR9.out, HBE.out⟩
end Go.Proofs.Ytcmbijckhcckpaa
