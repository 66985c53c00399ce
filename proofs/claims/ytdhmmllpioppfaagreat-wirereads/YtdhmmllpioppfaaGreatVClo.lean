/- bytes.Clone. -/
import Derived.Test.YtdhmmllpioppfaaGreatVStr
namespace Go.Proofs.YtdhmmllpioppfaaGreat.V
open Go.RowKit

theorem own_empty (w : World) (B : Nat) (hB : B ≤ w.heap.size) : (w.alloc (.cells #[] 5)).ownsRow B 5 1 (.slice (some ⟨w.heap.size, 0, none⟩) 0 0) ([] : Bs).length (bcs []) :=
  World.ownsRow_made w #[] 0 hB (by unfold maxLen; omega) rfl
theorem nil_yes (W : World) : (binOp BinOp.eql 33 (.slice none 0 0) (.slice none 0 0)).run Tryz.prog W = .ok (.bool true) W := by kernel_rfl
theorem nil_no (W : World) (a : Addr) (m c : Nat) : (binOp BinOp.eql 33 (.slice (some a) m c) (.slice none 0 0)).run Tryz.prog W = .ok (.bool false) W := by kernel_rfl
set_option maxRecDepth 100000 in
set_option maxHeartbeats 1000000 in
theorem clone_any (w : World) (v : Value) (b : Bs) (hs : Sl w v b) (hm : b.length ≤ 140737488355328) :
    Calls Tryz.prog 89 #[v] w fun e w' => ∃ ao cap, e = .returned (.slice ao b.length cap) ∧ w'.ownsRow w.heap.size 5 1 (.slice ao b.length cap) b.length (bcs b) ∧ Below w.heap.size w w' := by
  have hs' := hs
  rcases hs with ⟨rfl, rfl⟩ | ⟨a, cap, rfl, hrest⟩
  · clear hs'
    have hq := nil_yes
    go_enter Tryz.func89, Tryz.ntmps89
    go_wp2_with fail
    go_ret
    exact ⟨none, 0, rfl, own_none _ _, Below.refl _ _⟩
  · have hb1 := (Below.refl w.heap.size w).alloc (Nat.le_refl _) (.cells #[] 5)
    obtain ⟨ao, c2, w2, hrun, hown, hg⟩ := append_bytes (own_empty w w.heap.size (Nat.le_refl _)) (hs'.below hb1) (by simpa using hm) hb1.size
    have HB := hid (hb1.grown hg hb1.size (fun k h => by cases h; exact Nat.le_refl _))
    simp only [List.nil_append] at hrun hown
    have HRUN := hid hrun
    have HOWN := hid hown
    clear hrun hown hg hb1 hs' hrest
    generalize b.length = m at *
    have hq := fun W => nil_no W a m cap
    go_enter Tryz.func89, Tryz.ntmps89
    go_wp2_with (first | (at_builtin; refine wpList_append_run rfl _ _ 33 rfl _ _ (.slice ao m c2) w2 rfl rfl HRUN.out ?_) | fail)
    go_ret
    exact ⟨ao, c2, rfl, HOWN.out, HB.out⟩
end Go.Proofs.YtdhmmllpioppfaaGreat.V
