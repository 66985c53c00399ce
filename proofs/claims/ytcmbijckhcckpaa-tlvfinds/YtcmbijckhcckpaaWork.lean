/- works: a record is written and read. -/
import Derived.Test.YtcmbijckhcckpaaRec
namespace Go.Proofs.Ytcmbijckhcckpaa
open Go.RowKit

theorem nil_string (w : World) : (convert 23 9 (.slice none 0 0)).run Try.prog w = .ok (St []) w := by kernel_rfl
/-- bytes, as a text -/
theorem Sl.string {w : World} {v : Value} {l : Bs} (h : Sl w v l) : (convert 23 9 v).run Try.prog w = .ok (St l) w := by
  rcases h with ⟨rfl, rfl⟩ | ⟨a, cap, rfl, _, _, h3⟩
  · exact nil_string w
  · exact run_convert_bytes_back (P := Try.prog) w 23 9 5 a cap l Try.underlying23 Try.underlying5 Try.underlying9 (fun j hj => h3 j hj)
theorem wk_stream : streamR [(1, [7, 8]), (254, [])] = ([1, 2, 7, 8, 253, 0, 254, 0], 0) := by decide +kernel
theorem wk_recs : recsB [1, 2, 7, 8, 253, 0, 254, 0] = ([(1, [7, 8]), (254, [])], 0) := by decide +kernel
theorem wk_in (w : World) : Rcs ((w.alloc (.cells #[.int .u8 7, .int .u8 8] 5)).alloc (.cells #[.int .u64 1, .slice (some ⟨w.heap.size, 0, none⟩) 2 2, .int .u64 254, .slice none 0 0] 39)) (.slice (some ⟨w.heap.size + 1, 0, none⟩) 2 2) [(1, [7, 8]), (254, [])] := by
  have hs : (w.alloc (.cells #[.int .u8 7, .int .u8 8] 5)).heap.size = w.heap.size + 1 := by simp
  have h1 := heap_alloc_new (w.alloc (.cells #[.int .u8 7, .int .u8 8] 5)) (.cells #[.int .u64 1, .slice (some ⟨w.heap.size, 0, none⟩) 2 2, .int .u64 254, .slice none 0 0] 39)
  rw [hs] at h1
  have h2 : Sl ((w.alloc (.cells #[.int .u8 7, .int .u8 8] 5)).alloc (.cells #[.int .u64 1, .slice (some ⟨w.heap.size, 0, none⟩) 2 2, .int .u64 254, .slice none 0 0] 39)) (.slice (some ⟨w.heap.size, 0, none⟩) 2 2) [7, 8] :=
    (sl_new w [7, 8]).below ((Below.refl _ _).alloc (Nat.le_refl _) _)
  refine Or.inr ⟨_, 2, rfl, Nat.le_refl _, fun _ => ⟨rfl, lt_of_block h1⟩, fun i hi => ?_⟩
  have hi' : i = 0 ∨ i = 1 := by simp at hi; omega
  rcases hi' with rfl | rfl
  · refine ⟨_, ?_, ?_, h2⟩
    · rw [add_plain, cell_of_heap h1]; rfl
    · rw [add_plain, cell_of_heap h1]; rfl
  · refine ⟨.slice none 0 0, ?_, ?_, Sl.nil _⟩
    · rw [add_plain, cell_of_heap h1]; rfl
    · rw [add_plain, cell_of_heap h1]; rfl
theorem wk_few : Few [(1, [7, 8]), (254, [])] := ⟨by decide, fun i hi => by
  have hi' : i = 0 ∨ i = 1 := by simp at hi; omega
  rcases hi' with rfl | rfl <;> simp⟩

set_option maxRecDepth 100000 in
set_option maxHeartbeats 2000000 in
theorem works_any (w : World) : Calls Try.prog 9 #[] w fun e w' => e = .returned (.bool true) ∧ Below w.heap.size w w' := by
  have HS := hid (stream_any _ _ _ (wk_in w) wk_few)
  rw [wk_stream] at HS
  simp only [streamed, List.length_cons, List.length_nil] at HS
  have HB0 := hid (((Below.refl w.heap.size w).alloc (Nat.le_refl _) (.cells #[.int .u8 7, .int .u8 8] 5)).alloc (by simp) (.cells #[.int .u64 1, .slice (some ⟨w.heap.size, 0, none⟩) 2 2, .int .u64 254, .slice none 0 0] 39))
  go_enter Try.func9, Try.ntmps9
  go_wp2_with fail
  refine HS.out.mono ?_
  rintro e w1 ⟨ao1, c1, rfl, ho1, hb1⟩
  have HB1 := hid (HB0.out.trans (hb1.mono HB0.out.size))
  have HSL := hid (Sl.own ho1 rfl)
  have HR := hid (records_any w1 _ _ HSL.out (by decide))
  rw [wk_recs] at HR
  simp only [recorded, List.length_cons, List.length_nil] at HR
  clear ho1 hb1 HS HB0
  go_wp2_with fail
  refine HR.out.mono ?_
  rintro e w2 ⟨ao2, c2, he2, ho2, hb2⟩
  have he2' : e = .returned (.tuple #[.slice ao2 2 c2, .int .i64 0]) := he2
  clear he2
  subst he2'
  have HB2 := hid (HB1.out.trans (hb2.mono HB1.out.size))
  have hst := (HSL.out.below hb2).string
  have hrc : Rcs w2 (.slice ao2 2 c2) [(1, [7, 8]), (254, [])] := ho2.rcs
  obtain ⟨g, o, rfl, hg, _, hcap, hc⟩ := hrc.at (by simp)
  obtain ⟨bv, d1, d2, d3⟩ := hc 0 (by simp)
  obtain ⟨bv', e1, _, _⟩ := hc 1 (by simp)
  have hst2 := d3.string
  obtain ⟨ab, cb, rfl⟩ := d3.shape
  have d2' : w2.cell? ⟨g, o + 1, none⟩ = some (.slice ab 2 cb) := d2
  have e1' : w2.cell? ⟨g, o + 2, none⟩ = some (.int .u64 254) := e1
  have hst2' : (convert 23 9 (.slice ab 2 cb)).run Try.prog w2 = .ok (St [7, 8]) w2 := hst2
  have hst' : (convert 23 9 (.slice ao1 8 c1)).run Try.prog w2 = .ok (St [1, 2, 7, 8, 253, 0, 254, 0]) w2 := hst
  clear hrc ho2 hb2 HSL HR HB1 hc d1 d2 d3 e1 hst2 hst
  go_wp2_with fail
  go_ret
  exact ⟨rfl, HB2.out⟩
end Go.Proofs.Ytcmbijckhcckpaa
