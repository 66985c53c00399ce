/- What same answers of parts that are the same. -/
import Derived.Test.YtcmpiffkmnbepaaDoorROpenT
namespace Go.Proofs.YtcmpiffkmnbepaaDoor
open Go.RowKit

/-- the parts of a row, where they are -/
def Lies (w : World) (a : Option Addr) (ks : List Bs) : Prop := ∀ i (h : i < ks.length), ∃ g, a = some ⟨g, 0, none⟩ ∧ g < w.heap.size ∧ w.cell? ⟨g, i, none⟩ = some (St ks[i])

set_option maxHeartbeats 2000000 in
set_option maxRecDepth 100000 in
theorem same_yes (op N : Int) (X : ByteArray) (a1 a2 : Option Addr) (c1 c2 : Nat) (ks : List Bs) (w : World) (hl : ks.length ≤ 20000) (h1 : Lies w a1 ks) (h2 : Lies w a2 ks) :
    Calls Tryd.prog 14 #[.agg #[.int .u8 op, .int .i64 N, .string X, .slice a1 ks.length c1], .agg #[.int .u8 op, .int .i64 N, .string X, .slice a2 ks.length c2]] w fun en w' => en = .returned (.bool true) ∧ Below w.heap.size w w' := by
  obtain ⟨n, hn⟩ : ∃ n, n = ks.length := ⟨_, rfl⟩
  rw [← hn] at hl ⊢
  have HN := hid hn
  have H1 := hid h1
  have H2 := hid h2
  clear hn h1 h2
  go_enter Tryd.func14, Tryd.ntmps14
  go_wp2_with fail
  have hz : Below w.heap.size w ((w.alloc (.cells #[.int .u8 op, .int .i64 N, .string X, .slice a1 n c1] 25)).alloc (.cells #[.int .u8 op, .int .i64 N, .string X, .slice a2 n c2] 25)) :=
    (below_alloc_self' w _).trans ((below_alloc_self' _ _).mono (by simp))
  have z1 : ((w.alloc (.cells #[.int .u8 op, .int .i64 N, .string X, .slice a1 n c1] 25)).alloc (.cells #[.int .u8 op, .int .i64 N, .string X, .slice a2 n c2] 25)).cell? ⟨w.heap.size, 3, none⟩ = some (.slice a1 n c1) := by
    rw [(below_alloc_self' _ _).cell (p := ⟨w.heap.size, 3, none⟩) (by simp), cell_of_heap (heap_alloc_new w _)]; rfl
  have z2 : ((w.alloc (.cells #[.int .u8 op, .int .i64 N, .string X, .slice a1 n c1] 25)).alloc (.cells #[.int .u8 op, .int .i64 N, .string X, .slice a2 n c2] 25)).cell? ⟨w.heap.size + 1, 3, none⟩ = some (.slice a2 n c2) := by
    have := heap_alloc_new (w.alloc (.cells #[.int .u8 op, .int .i64 N, .string X, .slice a1 n c1] 25)) (.cells #[.int .u8 op, .int .i64 N, .string X, .slice a2 n c2] 25)
    rw [cell_of_heap (b := w.heap.size + 1) (by simpa using this)]; rfl
  have zs : ((w.alloc (.cells #[.int .u8 op, .int .i64 N, .string X, .slice a1 n c1] 25)).alloc (.cells #[.int .u8 op, .int .i64 N, .string X, .slice a2 n c2] 25)).heap.size = w.heap.size + 2 := by simp
  generalize World.alloc (World.alloc w (.cells #[.int .u8 op, .int .i64 N, .string X, .slice a1 n c1] 25)) (.cells #[.int .u8 op, .int .i64 N, .string X, .slice a2 n c2] 25) = W0 at hz z1 z2 zs ⊢
  have HZ := hid hz
  have Z1 := hid z1
  have Z2 := hid z2
  have ZS := hid zs
  clear hz z1 z2 zs
  go_loopg [5] n (fun g iv wr => ∃ i : Nat, i ≤ n ∧ g = n - i ∧ iv = .int .i64 i ∧ Below W0.heap.size W0 wr)
  case atStart => exact ⟨0, by omega, rfl, rfl, Below.refl _ _⟩
  case round =>
    obtain ⟨i, hi, rfl, rfl, hb⟩ := hrel
    have k1 : wr.cell? ⟨w.heap.size, 3, none⟩ = some (.slice a1 n c1) := (hb.cell (p := ⟨w.heap.size, 3, none⟩) (by have := ZS.out; show w.heap.size < W0.heap.size; omega)).trans Z1.out
    have k2 : wr.cell? ⟨w.heap.size + 1, 3, none⟩ = some (.slice a2 n c2) := (hb.cell (p := ⟨w.heap.size + 1, 3, none⟩) (by have := ZS.out; show w.heap.size + 1 < W0.heap.size; omega)).trans Z2.out
    have HB := hid hb
    clear hb
    by_cases hin : i < n
    · have hin' : (i : Int) < (n : Int) := by omega
      have hik : i < ks.length := by rw [← HN.out]; exact hin
      obtain ⟨g1, rfl, hg1, m1⟩ := H1.out i hik
      obtain ⟨g2, rfl, hg2, m2⟩ := H2.out i hik
      have n1 : wr.cell? ⟨g1, i, none⟩ = some (St ks[i]) := (HB.out.cell (p := ⟨g1, i, none⟩) (by have := ZS.out; show g1 < W0.heap.size; omega)).trans ((HZ.out.cell (p := ⟨g1, i, none⟩) hg1).trans m1)
      have n2 : wr.cell? ⟨g2, i, none⟩ = some (St ks[i]) := (HB.out.cell (p := ⟨g2, i, none⟩) (by have := ZS.out; show g2 < W0.heap.size; omega)).trans ((HZ.out.cell (p := ⟨g2, i, none⟩) hg2).trans m2)
      clear m1 m2 hg1 hg2
      generalize ks[i] = kx at *
      go_wp2_with fail
      go_quiet (fail)
      go_wp2_with fail
      go_roundg (n - (i + 1))
      case measure => omega
      case rel => exact ⟨i + 1, by omega, rfl, by simp, HB.out.trans ⟨rfl, rfl, rfl, Nat.le_refl _, fun _ _ => rfl⟩⟩
    · have hin' : ¬ (i : Int) < (n : Int) := by omega
      go_wp2_with fail
      go_ret
      exact ⟨rfl, HZ.out.trans (HB.out.mono HZ.out.size)⟩
end Go.Proofs.YtcmpiffkmnbepaaDoor
