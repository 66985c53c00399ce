/- What the document's Open answers of a text. -/
import Derived.Test.YtfnnhekjeobicaaGreatROpen
namespace Go.Proofs.YtfnnhekjeobicaaGreat
open Go.RowKit

set_option maxHeartbeats 1000000 in
set_option maxRecDepth 100000 in
theorem ropen_text (l : Bs) (w : World) (hd : Tm.deep (116 :: l) ≠ 0) :
    Calls Tryz.prog 38 #[St (116 :: l)] w fun en w' => en = .returned (.tuple #[.agg #[.int .u8 116, .int .i64 0, .string ⟨(Tm.textX l).toArray⟩, .slice none 0 0], .bool true]) ∧ Below w.heap.size w w' := by
  obtain ⟨t, ht⟩ : ∃ t, t = 116 :: l := ⟨_, rfl⟩
  rw [← ht] at hd ⊢
  have hsz : (⟨t.toArray⟩ : ByteArray).size = t.length := st_size t
  have hlen : 0 < t.length := by rw [ht]; simp
  have h0 : ∀ h, (((⟨t.toArray⟩ : ByteArray)[0]'h).toNat : Int) = 116 := by subst ht; exact fun _ => rfl
  have HD := hid hd
  have HT := hid ht
  have HR : Hid ((Tm.deep t != 0) = true) := by apply hid; simpa using hd
  clear hd ht
  go_enter Tryz.func38, Tryz.ntmps38
  go_wp2_with fail
  refine (rright_any t _).mono ?_
  rintro e w1 ⟨rfl, hb⟩
  rw [HR.out]
  obtain ⟨hbl, hh⟩ := parts_block w w1 hb
  have HB := hid hbl
  have HH := hid hh
  clear hb hbl hh
  go_wp2_with fail
  refine (read_whole t _ (Tm.deep_is HD.out).2).mono ?_
  rintro e w2 ⟨hb, E, D, N, F, ao, kn, kc, rfl, _, hT⟩
  obtain ⟨hD, hE, ha, hT⟩ := hT HD.out
  have hlt : w.heap.size < w1.heap.size := by
    apply Classical.byContradiction
    intro hn
    have hh := HH.out
    rw [Array.getElem?_eq_none (by omega)] at hh
    cases hh
  have hh2 : w2.heap[w.heap.size]? = some (.cells partsZ 58 (0, 0)) := (hb.block _ hlt).trans HH.out
  obtain ⟨q0, q1, q2, q3, qf⟩ := partsZ_cells hh2
  have hlt2 : w.heap.size < w2.heap.size := Nat.lt_of_lt_of_le hlt hb.size
  have HH2 := hid hh2
  have HB2 := hid (HB.out.trans (hb.mono HB.out.size))
  have hk : ao = none ∧ kn = 0 ∧ kc = 0 ∧ ∃ f : Nat, F = f ∧ f ≤ t.length ∧ Tm.textX l = (rest ⟨t.toArray⟩ f).take (t.length - f) := by
    have hr : rest ⟨t.toArray⟩ (0 + 1) = l := by rw [HT.out]; simp [rest]
    rcases hT with ⟨h1, _⟩ | ⟨_, h3, f, h4, h5, h6⟩ | ⟨_, h1, _⟩
    · exact absurd h1 (by simp only [HT.out]; show ¬ ((116 : UInt8) = 110); decide)
    · simp at h3
      rw [hr] at h6
      rw [hsz] at h5 h6
      exact ⟨h3.1, h3.2.1, h3.2.2, f, h4, by simpa using h5, by simpa using h6⟩
    · exact absurd (by simp only [HT.out]; rfl) h1
  obtain ⟨rfl, rfl, rfl, f, rfl, hf, hx⟩ := hk
  subst hE
  have HX : Hid ((⟨t.toArray⟩ : ByteArray).extract f t.length = ⟨(Tm.textX l).toArray⟩) := by
    apply hid
    rw [hx]
    exact ba_eq (Lib.extract_data ⟨t.toArray⟩ f t.length)
  clear hT hb hh2 hlt HB HH hD hx
  have hll : t.length ≤ 16384 := (Tm.deep_is HD.out).2
  go_wp2_with fail
  rw [HX.out]
  obtain ⟨X, hX0⟩ : ∃ X : ByteArray, X = ⟨(Tm.textX l).toArray⟩ := ⟨_, rfl⟩
  rw [← hX0]
  have HX0 := hid hX0
  clear hX0
  go_loopg [6] 1 (fun _ iv wr => iv = .int .i64 1 ∧ wr = ((w2.alloc (.cells #[.int .i64 (t.length : Int), .int .i64 D, .int .u64 N, .int .i64 (f : Int), .slice none 0 0] 54)).alloc (.cells #[.int .u8 116, .int .i64 0, .string X, .slice none 0 0] 58)))
  case atStart => exact ⟨rfl, rfl⟩
  case round =>
    obtain ⟨rfl, rfl⟩ := hrel
    go_wp2_with fail
    have hres := res25 HH2.out (.int .u8 116) (.int .i64 0) (.string X) (.slice none 0 0) (.cells #[.int .i64 (t.length : Int), .int .i64 D, .int .u64 N, .int .i64 (f : Int), .slice none 0 0] 54) (.cells #[.int .u8 116, .int .i64 0, .string X, .slice none 0 0] 58)
    have hbel := below25 HB2.out (.int .u8 116) (.int .i64 0) (.string X) (.slice none 0 0) (.cells #[.int .i64 (t.length : Int), .int .i64 D, .int .u64 N, .int .i64 (f : Int), .slice none 0 0] 54) (.cells #[.int .u8 116, .int .i64 0, .string X, .slice none 0 0] 58)
    generalize World.alloc (World.alloc (World.setCell (World.setCell (World.setCell (World.setCell w2 ⟨w.heap.size, 0, none⟩ (.int .u8 116)) ⟨w.heap.size, 1, none⟩ (.int .i64 0)) ⟨w.heap.size, 2, none⟩ (.string X)) ⟨w.heap.size, 3, none⟩ (.slice none 0 0)) (.cells #[.int .i64 (t.length : Int), .int .i64 D, .int .u64 N, .int .i64 (f : Int), .slice none 0 0] 54)) (.cells #[.int .u8 116, .int .i64 0, .string X, .slice none 0 0] 58) = W at hres hbel ⊢
    have r0 : W.cell? ⟨w.heap.size, 0, none⟩ = some (.int .u8 116) := by rw [cell_of_heap hres]; rfl
    have r1 : W.cell? ⟨w.heap.size, 1, none⟩ = some (.int .i64 0) := by rw [cell_of_heap hres]; rfl
    have r2 : W.cell? ⟨w.heap.size, 2, none⟩ = some (.string X) := by rw [cell_of_heap hres]; rfl
    have r3 : W.cell? ⟨w.heap.size, 3, none⟩ = some (.slice none 0 0) := by rw [cell_of_heap hres]; rfl
    refine bodyPost_ret (v := .tuple #[.agg #[.int .u8 116, .int .i64 0, .string X, .slice none 0 0], .bool true]) (by simp [results, Tryz.results38, go_sem, r0, r1, r2, r3]) rfl ⟨by rw [HX0.out], hbel⟩
end Go.Proofs.YtfnnhekjeobicaaGreat
