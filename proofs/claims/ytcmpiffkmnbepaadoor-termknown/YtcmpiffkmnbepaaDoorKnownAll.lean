import Derived.Test.YtcmpiffkmnbepaaDoorAskedA
import Derived.Test.YtcmpiffkmnbepaaDoorCards
import Derived.Test.YtcmpiffkmnbepaaDoorTie
import Derived.ProofKit
import Derived.LaidMore
import Derived.OpenShut
import Derived.SizedLaws
import Derived.Stop.Joined
import Derived.Test.YtcmpiffkmnbepaaDoorMLawB
import Derived.Deep.Slices
import Derived.Lib.LaidTab
import Derived.Stop.LaidErr
import Derived.Test.YtcmpiffkmnbepaaDoorAsked
import Derived.Test.YtcmpiffkmnbepaaDoorLawsAll
import Derived.Test.YtcmpiffkmnbepaaDoorBLawN
import Derived.Test.YtcmpiffkmnbepaaDoorOLawN
import Derived.Test.YtcmpiffkmnbepaaDoorRefsAll
import Derived.SevenTiedAt
/- What TermKnown answers. -/
namespace Go.Proofs.YtcmpiffkmnbepaaDoor
open Go.RowKit

/-- the right terms of the examples -/
def good : List Bs := [[110, 55, 59], [110, 48, 59], [110, 57, 50, 50, 51, 51, 55, 50, 48, 51, 54, 56, 53, 52, 55, 55, 53, 56, 48, 55, 59], [116, 50, 58, 97, 98], [116, 48, 58], [84, 48, 58], [84, 50, 58, 110, 55, 59, 110, 56, 59], [80, 110, 55, 59], [72, 110, 55, 59], [83, 110, 49, 59, 116, 49, 58, 97], [66, 110, 49, 59, 116, 49, 58, 97], [88, 110, 49, 48, 59, 110, 57, 59], [68, 110, 49, 59, 116, 49, 58, 120], [86, 110, 49, 59, 110, 50, 59], [87, 80, 110, 49, 59, 80, 110, 50, 59], [75, 110, 49, 59, 116, 49, 58, 120], [76, 80, 110, 49, 59, 116, 49, 58, 120], [80, 80, 110, 49, 59], [87, 87, 80, 110, 49, 59, 80, 110, 50, 59, 76, 80, 110, 51, 59, 110, 52, 59], [75, 86, 110, 49, 59, 110, 50, 59, 116, 48, 58], [88, 110, 49, 59, 110, 49, 59], [86, 75, 110, 49, 59, 110, 50, 59, 86, 110, 51, 59, 110, 52, 59], [80, 72, 110, 49, 59], [110, 49, 48, 59], [110, 57, 59]]
/-- the texts of the examples that are no right terms -/
def bad : List Bs := [[], [110, 48, 55, 59], [110, 59], [110, 45, 49, 59], [110, 43, 49, 59], [110, 32, 49, 59], [110, 57, 50, 50, 51, 51, 55, 50, 48, 51, 54, 56, 53, 52, 55, 55, 53, 56, 48, 56, 59], [110, 57, 57, 57, 57, 57, 57, 57, 57, 57, 57, 57, 57, 57, 57, 57, 57, 57, 57, 57, 57, 59], [110, 49], [116, 51, 58, 97, 98], [116, 48, 50, 58, 97, 98], [116, 58], [116, 49], [116, 57, 50, 50, 51, 51, 55, 50, 48, 51, 54, 56, 53, 52, 55, 55, 53, 56, 48, 55, 58, 97], [84, 49, 58], [84, 48, 49, 58, 110, 49, 59], [84, 51, 51, 58], [84, 50, 58, 110, 49, 59], [84, 49, 58, 110, 49, 59, 110, 50, 59], [84], [80], [80, 86, 110, 49, 59, 110, 50, 59], [80, 75, 110, 49, 59, 110, 50, 59], [88, 110, 57, 59, 110, 49, 48, 59], [87, 110, 49, 59, 80, 110, 50, 59], [87, 80, 110, 49, 59, 110, 50, 59], [76, 110, 49, 59, 110, 50, 59], [110, 49, 59, 110, 50, 59], [83], [83, 110, 49, 59], [81], [97], [110, 49, 59, 0]]
theorem getD_all {P : Bs → Prop} {L : List Bs} (h : ∀ l ∈ L, P l) (h0 : P []) (i : Nat) : P (L.getD i []) := by
  by_cases hi : i < L.length
  · rw [List.getD, List.getElem?_eq_getElem hi, Option.getD_some]
    exact h _ (List.getElem_mem hi)
  · rw [List.getD, List.getElem?_eq_none (Nat.le_of_not_lt hi)]
    exact h0
theorem good_short (i : Nat) : (good.getD i []).length ≤ 140737488355328 := by
  have h := getD_all (P := fun l => l.length ≤ 200) (L := good) (by decide) (by decide) i
  omega
theorem bad_short (i : Nat) : (bad.getD i []).length ≤ 140737488355328 := by
  have h := getD_all (P := fun l => l.length ≤ 200) (L := bad) (by decide) (by decide) i
  omega
theorem bad_bad (i : Nat) : Tm.deep (bad.getD i []) = 0 :=
  getD_all (P := fun l => Tm.deep l = 0) (L := bad) (by decide +kernel) (by decide +kernel) i
/-- a new block of texts -/
theorem new_cells {w : World} {L : List Bs} {t : TypeId} (i : Nat) (hi : i < L.length) : (w.alloc (.cells (L.map St).toArray t)).cell? ⟨w.heap.size, i, none⟩ = some (St (L.getD i [])) := by
  rw [cell_of_heap (heap_alloc_new w _)]
  simp [List.getD, hi]
end Go.Proofs.YtcmpiffkmnbepaaDoor

/- What TermKnown answers, walked. -/
namespace Go.Proofs.YtcmpiffkmnbepaaDoor
open Go.RowKit

theorem two_short {s : Bs} (hs : s.length ≤ 140737488355328) (i : Nat) : (([[110, 49, 59], s] : List Bs).getD i []).length ≤ 140737488355328 :=
  match i with
  | 0 => show ([110, 49, 59] : Bs).length ≤ 140737488355328 by decide
  | 1 => hs
  | _ + 2 => show ([] : Bs).length ≤ 140737488355328 by decide
theorem same_short {s : Bs} (hs : s.length ≤ 140737488355328) (m i : Nat) : ((List.replicate m s).getD i []).length ≤ 140737488355328 :=
  getD_all (P := fun l => l.length ≤ 140737488355328) (fun l hl => by rw [(List.mem_replicate.1 hl).2]; exact hs) (by decide) i
/-- makes, of a new block of few terms -/
theorem makes_new {w0 W : World} (hp : Pw w0) (hb : Below w0.heap.size w0 W) (L : List Bs) (hL : L.length ≤ 40) (hl : ∀ i, (L.getD i []).length ≤ 140737488355328) (n : Int) (hn1 : -9223372036854775808 ≤ n) (hn2 : n ≤ 9223372036854775807) (s : Bs) (hs : s.length ≤ 140737488355328) :
    Calls Tryd.prog 4 #[.int .i64 n, St s, .slice (some ⟨W.heap.size, 0, none⟩) L.length L.length] (W.alloc (.cells (L.map St).toArray 22)) fun en w' => en = .returned (.bool true) ∧ Below W.heap.size W w' := by
  have hba := below_alloc_self' W (.cells (L.map St).toArray 22)
  have h := makes_first (w := W.alloc (.cells (L.map St).toArray 22)) (W := W.alloc (.cells (L.map St).toArray 22)) (g := W.heap.size) (N := L.length) (k := fun i => L.getD i []) ((hp.below hb).below hba) hl (by simp) (fun i hi => new_cells i hi) L.length L.length (Nat.le_refl _) hL n hn1 hn2 s hs (Below.refl _ _)
  refine h.mono ?_
  rintro e w' ⟨rfl, hb'⟩
  exact ⟨rfl, two_own hba hb'⟩

theorem new_four (w : World) (i : Nat) (hi : i < 4) : (w.alloc (.cells #[.int .i64 62, .int .i64 63, .int .i64 64, .int .i64 65] 3)).cell? ⟨w.heap.size, i, none⟩ = some (.int .i64 ((62 + i : Nat) : Int)) := by
  rw [cell_of_heap (heap_alloc_new w _)]
  match i, hi with
  | 0, _ => rfl
  | 1, _ => rfl
  | 2, _ => rfl
  | 3, _ => rfl
/-- as deep as may be, and one deeper -/
theorem tower (i : Nat) (hi : i < 4) : (Tm.deep (List.replicate (62 + i - 1) 72 ++ [110, 49, 59]) != 0) = decide (((62 + i : Nat) : Int) ≤ 64) := by
  match i, hi with
  | 0, _ => decide +kernel
  | 1, _ => decide +kernel
  | 2, _ => decide +kernel
  | 3, _ => decide +kernel

theorem new_three (w : World) (i : Nat) (hi : i < 3) : (w.alloc (.cells #[.int .i64 4095, .int .i64 4096, .int .i64 4097] 3)).cell? ⟨w.heap.size, i, none⟩ = some (.int .i64 ((4095 + i : Nat) : Int)) := by
  rw [cell_of_heap (heap_alloc_new w _)]
  match i, hi with
  | 0, _ => rfl
  | 1, _ => rfl
  | 2, _ => rfl
theorem text_both (R : Bs) (h : R.length ≤ 5000) : ∃ (t : Bs) (E : Nat), textRes R = (t, E) ∧ t.length ≤ 10000 ∧ ((E = 0 ∧ R.length ≤ 4096) ∨ (E = 3 ∧ 4096 < R.length)) := by
  by_cases h0 : 4096 < R.length
  · exact ⟨[], 3, by unfold textRes; rw [if_pos h0], by decide, Or.inr ⟨rfl, h0⟩⟩
  · have hd := dec_len R.length (by omega)
    refine ⟨116 :: (dec R.length ++ [58] ++ R), 0, ?_, ?_, Or.inl ⟨rfl, by omega⟩⟩
    · unfold textRes; rw [if_neg h0, bres_none _ _ (by simp; omega)]
    · simp; omega

theorem own_slc {w : World} {base : Nat} {e : TypeId} {v : Value} {n : Nat} {xs : List Value} (h : w.ownsRow base e 1 v n xs) : ∃ ao kc, v = .slice ao n kc := by
  rcases h.2 with ⟨h1, h2⟩ | ⟨g, cap, _, h1, _⟩
  · subst h2; exact ⟨_, _, h1⟩
  · exact ⟨_, _, h1⟩
theorem own_cells {w : World} {base n : Nat} {ao : Option Addr} {kc : Nat} {x : Value} (h : w.ownsRow base 22 1 (.slice ao n kc) n (List.replicate n x)) (hn : 0 < n) : ∃ g, ao = some ⟨g, 0, none⟩ ∧ g < w.heap.size ∧ n ≤ kc ∧ ∀ i, i < n → w.cell? ⟨g, i, none⟩ = some x := by
  rcases h.2 with ⟨_, h2⟩ | ⟨g, cap, cur, hv, hb, hg, hc1, hc2, hc3, hc4⟩
  · omega
  · obtain ⟨rfl, rfl⟩ : ao = some ⟨g, 0, none⟩ ∧ kc = cap := by simpa using hv
    refine ⟨g, rfl, lt_of_block hg, by omega, fun i hi => ?_⟩
    have e : (cur.toList.take (n * 1))[i]? = some x := by rw [hc4]; simp [hi]
    rw [Nat.mul_one, List.getElem?_take_of_lt hi, Array.getElem?_toList] at e
    rw [cell_of_heap hg]
    exact e

/-- the heads of the great tuples -/
def hds : List Bs := [[84, 51, 49, 58], [84, 51, 50, 58], [84, 51, 51, 58]]
theorem hds_short (i : Nat) : (hds.getD i []).length ≤ 100 :=
  getD_all (P := fun l => l.length ≤ 100) (L := hds) (by decide) (by decide) i
theorem heads_cells (w : World) (i : Nat) (hi : i < 3) :
    ((w.alloc (.cells #[St [84, 51, 49, 58], St [84, 51, 50, 58], St [84, 51, 51, 58]] 9)).alloc (.cells #[.int .i64 31, .int .i64 32, .int .i64 33] 3)).cell? ⟨w.heap.size, i, none⟩ = some (St (hds.getD i [])) ∧
    ((w.alloc (.cells #[St [84, 51, 49, 58], St [84, 51, 50, 58], St [84, 51, 51, 58]] 9)).alloc (.cells #[.int .i64 31, .int .i64 32, .int .i64 33] 3)).cell? ⟨w.heap.size + 1, i, none⟩ = some (.int .i64 ((31 + i : Nat) : Int)) := by
  refine ⟨((below_alloc_self' _ _).cell (p := ⟨w.heap.size, i, none⟩) (by simp)).trans (new_cells (L := hds) i hi), ?_⟩
  have h := heap_alloc_new (w.alloc (.cells #[St [84, 51, 49, 58], St [84, 51, 50, 58], St [84, 51, 51, 58]] 9)) (.cells #[.int .i64 31, .int .i64 32, .int .i64 33] 3)
  rw [show (w.alloc (.cells #[St [84, 51, 49, 58], St [84, 51, 50, 58], St [84, 51, 51, 58]] 9)).heap.size = w.heap.size + 1 by simp] at h
  rw [cell_of_heap h]
  match i, hi with
  | 0, _ => rfl
  | 1, _ => rfl
  | 2, _ => rfl
theorem slice_str (F : Bs) (p : Nat) (h : p ≤ F.length) : ∃ G : Bs, G.length ≤ F.length ∧ ∀ W : World, (Instr.sliceAt 9 (.string ⟨F.toArray⟩) none (some (.int .i64 (p : Int))) none).run Tryd.prog W = .ok (St G) W := by
  have hs : (⟨F.toArray⟩ : ByteArray).size = F.length := st_size F
  refine ⟨((⟨F.toArray⟩ : ByteArray).extract 0 p).data.toList, ?_, fun W => ?_⟩
  · have h1 : ((⟨F.toArray⟩ : ByteArray).extract 0 p).size ≤ (⟨F.toArray⟩ : ByteArray).size := by rw [ByteArray.size_extract]; omega
    rw [hs] at h1
    simpa [ByteArray.size] using h1
  · have key : (Instr.sliceAt 9 (.string ⟨F.toArray⟩) none (some (.int .i64 (p : Int))) none).run Tryd.prog W = .ok (.string ((⟨F.toArray⟩ : ByteArray).extract 0 p)) W := by
      simp [Instr.sliceAt, Instr.slice, Instr.sliceBounds, Instr.sliceBound, asIntOf, run_underlying Tryd.underlying9, hs]
      first | rw [if_pos h] | (intro h'; omega)
    exact key

set_option maxHeartbeats 8000000 in
set_option maxRecDepth 100000 in
theorem known_any (A : AllLaws) (K : ∀ (k : Nat → Bs) (_ : ∀ i, (k i).length ≤ 140737488355328) (g : Nat) (w : World) (_ : g < w.heap.size) (_ : ∀ i, i < 25 → w.cell? ⟨g, i, none⟩ = some (St (k i))) (_ : Pw w), Calls Tryd.prog 47 #[.slice (some ⟨g, 0, none⟩) 25 25] w fun en w' => en = .returned (.bool true) ∧ Below w.heap.size w w')
    (w : World) (hp : Pw w) : Calls Tryd.prog 11 #[] w fun en w' => en = .returned (.bool true) ∧ Below w.heap.size w w' := by
  have HP := hid hp
  have HA := hid A
  have HB0 : Hid (Below w.heap.size w (w.alloc (.cells #[St [110, 55, 59], St [110, 48, 59], St [110, 57, 50, 50, 51, 51, 55, 50, 48, 51, 54, 56, 53, 52, 55, 55, 53, 56, 48, 55, 59], St [116, 50, 58, 97, 98], St [116, 48, 58], St [84, 48, 58], St [84, 50, 58, 110, 55, 59, 110, 56, 59], St [80, 110, 55, 59], St [72, 110, 55, 59], St [83, 110, 49, 59, 116, 49, 58, 97], St [66, 110, 49, 59, 116, 49, 58, 97], St [88, 110, 49, 48, 59, 110, 57, 59], St [68, 110, 49, 59, 116, 49, 58, 120], St [86, 110, 49, 59, 110, 50, 59], St [87, 80, 110, 49, 59, 80, 110, 50, 59], St [75, 110, 49, 59, 116, 49, 58, 120], St [76, 80, 110, 49, 59, 116, 49, 58, 120], St [80, 80, 110, 49, 59], St [87, 87, 80, 110, 49, 59, 80, 110, 50, 59, 76, 80, 110, 51, 59, 110, 52, 59], St [75, 86, 110, 49, 59, 110, 50, 59, 116, 48, 58], St [88, 110, 49, 59, 110, 49, 59], St [86, 75, 110, 49, 59, 110, 50, 59, 86, 110, 51, 59, 110, 52, 59], St [80, 72, 110, 49, 59], St [110, 49, 48, 59], St [110, 57, 59]] 22))) := hid (below_alloc_self' w _)
  have HK : Hid (Calls Tryd.prog 47 #[.slice (some ⟨w.heap.size, 0, none⟩) 25 25] (w.alloc (.cells #[St [110, 55, 59], St [110, 48, 59], St [110, 57, 50, 50, 51, 51, 55, 50, 48, 51, 54, 56, 53, 52, 55, 55, 53, 56, 48, 55, 59], St [116, 50, 58, 97, 98], St [116, 48, 58], St [84, 48, 58], St [84, 50, 58, 110, 55, 59, 110, 56, 59], St [80, 110, 55, 59], St [72, 110, 55, 59], St [83, 110, 49, 59, 116, 49, 58, 97], St [66, 110, 49, 59, 116, 49, 58, 97], St [88, 110, 49, 48, 59, 110, 57, 59], St [68, 110, 49, 59, 116, 49, 58, 120], St [86, 110, 49, 59, 110, 50, 59], St [87, 80, 110, 49, 59, 80, 110, 50, 59], St [75, 110, 49, 59, 116, 49, 58, 120], St [76, 80, 110, 49, 59, 116, 49, 58, 120], St [80, 80, 110, 49, 59], St [87, 87, 80, 110, 49, 59, 80, 110, 50, 59, 76, 80, 110, 51, 59, 110, 52, 59], St [75, 86, 110, 49, 59, 110, 50, 59, 116, 48, 58], St [88, 110, 49, 59, 110, 49, 59], St [86, 75, 110, 49, 59, 110, 50, 59, 86, 110, 51, 59, 110, 52, 59], St [80, 72, 110, 49, 59], St [110, 49, 48, 59], St [110, 57, 59]] 22)) fun en w' => en = .returned (.bool true) ∧ Below w.heap.size w w') := by
    apply hid
    refine (K (fun i => good.getD i []) good_short w.heap.size _ (by simp) (fun i hi => new_cells (L := good) i hi) (hp.below HB0.out)).mono ?_
    rintro e w' ⟨rfl, hb⟩
    exact ⟨rfl, two_own HB0.out hb⟩
  clear hp A K
  go_enter Tryd.func11, Tryd.ntmps11
  go_wp2_with fail
  refine HK.out.mono ?_
  rintro e w1 ⟨rfl, hb1⟩
  have HB1 := hid hb1
  clear hb1 HK HB0
  go_wp2_with fail
  generalize hW2 : w1.alloc (.cells #[St [], St [110, 48, 55, 59], St [110, 59], St [110, 45, 49, 59], St [110, 43, 49, 59], St [110, 32, 49, 59], St [110, 57, 50, 50, 51, 51, 55, 50, 48, 51, 54, 56, 53, 52, 55, 55, 53, 56, 48, 56, 59], St [110, 57, 57, 57, 57, 57, 57, 57, 57, 57, 57, 57, 57, 57, 57, 57, 57, 57, 57, 57, 57, 59], St [110, 49], St [116, 51, 58, 97, 98], St [116, 48, 50, 58, 97, 98], St [116, 58], St [116, 49], St [116, 57, 50, 50, 51, 51, 55, 50, 48, 51, 54, 56, 53, 52, 55, 55, 53, 56, 48, 55, 58, 97], St [84, 49, 58], St [84, 48, 49, 58, 110, 49, 59], St [84, 51, 51, 58], St [84, 50, 58, 110, 49, 59], St [84, 49, 58, 110, 49, 59, 110, 50, 59], St [84], St [80], St [80, 86, 110, 49, 59, 110, 50, 59], St [80, 75, 110, 49, 59, 110, 50, 59], St [88, 110, 57, 59, 110, 49, 48, 59], St [87, 110, 49, 59, 80, 110, 50, 59], St [87, 80, 110, 49, 59, 110, 50, 59], St [76, 110, 49, 59, 110, 50, 59], St [110, 49, 59, 110, 50, 59], St [83], St [83, 110, 49, 59], St [81], St [97], St [110, 49, 59, 0]] 9) = w2
  have HB2 : Hid (Below w.heap.size w w2) := by apply hid; rw [← hW2]; exact two_own HB1.out (below_alloc_self' w1 _)
  have HC2 : Hid (w1.heap.size < w2.heap.size ∧ ∀ i, i < 33 → w2.cell? ⟨w1.heap.size, i, none⟩ = some (St (bad.getD i []))) := by apply hid; rw [← hW2]; exact ⟨by simp, fun i hi => new_cells (L := bad) i hi⟩
  clear hW2 HB1
  generalize w1.heap.size = g1 at HC2 ⊢
  go_loopg [24] 33 (fun gg v wr => ∃ i : Nat, i ≤ 33 ∧ gg = 33 - i ∧ v = .int .i64 (i : Int) ∧ Below w2.heap.size w2 wr)
  case atStart => exact ⟨0, by omega, rfl, rfl, Below.refl _ _⟩
  case round =>
    obtain ⟨i, hi, rfl, rfl, hb⟩ := hrel
    have HB := hid hb
    clear hb
    by_cases hil : i < 33
    · have hi1 : (i : Int) < 33 := by omega
      have HIL := hid hil
      have hci := (HB.out.cell (p := ⟨g1, i, none⟩) HC2.out.1).trans (HC2.out.2 i hil)
      have HS := hid (bad_short i)
      have HD := hid (bad_bad i)
      clear hi hil
      generalize bad.getD i [] = s at hci HS HD
      have HM3 : Hid (∀ W, Calls Tryd.prog 3 #[St s] W fun en w' => en = .returned (.bool true) ∧ Below W.heap.size W w') := hid (fun W => HA.out.opens s W HS.out)
      have HMR : Hid (∀ W, Calls Tryd.prog 15 #[St s] W fun en w' => en = .returned (.bool false) ∧ Below W.heap.size W w') := hid (fun W => by have h := right_list s W; rw [HD.out] at h; exact h)
      have HM5 : Hid (∀ W, Calls Tryd.prog 5 #[St s, St [110, 49, 59]] W fun en w' => en = .returned (.bool true) ∧ Below W.heap.size W w') := hid (fun W => HA.out.builds _ _ W HS.out (by decide))
      have HM5' : Hid (∀ W, Calls Tryd.prog 5 #[St [110, 49, 59], St s] W fun en w' => en = .returned (.bool true) ∧ Below W.heap.size W w') := hid (fun W => HA.out.builds _ _ W (by decide) HS.out)
      have HM4 : Hid (∀ W, Below w.heap.size w W → Calls Tryd.prog 4 #[.int .i64 (-1), St s, .slice (some ⟨W.heap.size, 0, none⟩) 2 2] (W.alloc (.cells #[St [110, 49, 59], St s] 22)) fun en w' => en = .returned (.bool true) ∧ Below W.heap.size W w') :=
        hid (fun W hb => makes_new HP.out hb [[110, 49, 59], s] (by simp) (two_short HS.out) (-1) (by decide) (by decide) s HS.out)
      have HM6 : Hid (∀ W, Calls Tryd.prog 6 #[St s, St [110, 49, 59], St [110, 49, 59]] W fun en w' => en = .returned (.bool true) ∧ Below W.heap.size W w') := hid (fun W => HA.out.asks _ _ _ W HS.out (by decide) (by decide))
      have HM5'' : Hid (∀ W, Calls Tryd.prog 5 #[St [80, 110, 49, 59], St s] W fun en w' => en = .returned (.bool true) ∧ Below W.heap.size W w') := hid (fun W => HA.out.builds _ _ W (by decide) HS.out)
      go_wp2_with fail
      refine (HM3.out _).mono ?_
      rintro e x1 ⟨rfl, hb⟩
      have HX1 := hid (two_own HB.out hb)
      clear hb HM3
      go_wp2_with fail
      refine (HMR.out _).mono ?_
      rintro e x2 ⟨rfl, hb⟩
      have HX2 := hid (two_own HX1.out hb)
      clear hb HMR HX1
      go_wp2_with fail
      refine (HM5.out _).mono ?_
      rintro e x3 ⟨rfl, hb⟩
      have HX3 := hid (two_own HX2.out hb)
      clear hb HM5 HX2
      go_wp2_with fail
      refine (HM5'.out _).mono ?_
      rintro e x4 ⟨rfl, hb⟩
      have HX4 := hid (two_own HX3.out hb)
      clear hb HM5' HX3
      go_wp2_with fail
      refine (HM4.out _ (two_own HB2.out HX4.out)).mono ?_
      rintro e x5 ⟨rfl, hb⟩
      have HX5 := hid (two_own HX4.out hb)
      clear hb HM4 HX4
      go_wp2_with fail
      refine (HM6.out _).mono ?_
      rintro e x6 ⟨rfl, hb⟩
      have HX6 := hid (two_own HX5.out hb)
      clear hb HM6 HX5
      go_wp2_with fail
      refine (HM5''.out _).mono ?_
      rintro e x7 ⟨rfl, hb⟩
      have HX7 := hid (two_own HX6.out hb)
      clear hb HM5'' HX6
      go_wp2_with fail
      go_roundg (33 - (i + 1))
      case measure => have := HIL.out; omega
      case rel => exact ⟨i + 1, HIL.out, rfl, rfl, HX7.out⟩
    · have hi1 : ¬ (i : Int) < 33 := by omega
      have HB3 := hid (two_own HB2.out HB.out)
      clear hi hil HB HB2 HC2
      go_wp2_with fail
      generalize hW3 : wr.alloc (.cells #[.int .i64 62, .int .i64 63, .int .i64 64, .int .i64 65] 3) = w3
      have HC3 : Hid (wr.heap.size < w3.heap.size ∧ ∀ i, i < 4 → w3.cell? ⟨wr.heap.size, i, none⟩ = some (.int .i64 ((62 + i : Nat) : Int))) := by apply hid; rw [← hW3]; exact ⟨by simp, new_four wr⟩
      have HB4 : Hid (Below w.heap.size w w3) := by apply hid; rw [← hW3]; exact two_own HB3.out (below_alloc_self' wr _)
      clear hW3 HB3
      generalize wr.heap.size = g2 at HC3 ⊢
      clear hi1
      go_loopg [65] 4 (fun gg v wr => ∃ i : Nat, i ≤ 4 ∧ gg = 4 - i ∧ v = .int .i64 (i : Int) ∧ Below w3.heap.size w3 wr)
      case atStart => exact ⟨0, by omega, rfl, rfl, Below.refl _ _⟩
      case round =>
        obtain ⟨i, hi, rfl, rfl, hb⟩ := hrel
        have HB := hid hb
        clear hb
        by_cases hil : i < 4
        · have hi1 : (i : Int) < 4 := by omega
          have HIL := hid hil
          have hci := (HB.out.cell (p := ⟨g2, i, none⟩) HC3.out.1).trans (HC3.out.2 i hil)
          obtain ⟨d, hd⟩ : ∃ d, d = 62 + i := ⟨_, rfl⟩
          rw [← hd] at hci
          have hd1 : (62 : Int) ≤ (d : Int) := by omega
          have hd2 : (d : Int) ≤ 65 := by omega
          have HRW : Hid (∀ W, Calls Tryd.prog 48 #[.int .u8 72, .int .i64 ((d : Int) - 1)] W fun en w' => en = .returned (St (List.replicate (d - 1) 72)) ∧ Below W.heap.size W w') := by
            apply hid; intro W
            have h := row_any 72 (d - 1) (by omega) W
            rw [show ((d - 1 : Nat) : Int) = (d : Int) - 1 by omega] at h
            exact h
          have HRT := hid (tower i hil)
          rw [← hd] at HRT
          obtain ⟨R, hR⟩ : ∃ R, R = List.replicate (d - 1) (72 : UInt8) := ⟨_, rfl⟩
          rw [← hR] at HRW HRT
          have HRL : Hid (R.length ≤ 100) := by apply hid; rw [hR]; simp; omega
          have ha : ∀ W, (Op.stringOp .add (⟨R.toArray⟩ : ByteArray) ⟨#[110, 49, 59]⟩).run Tryd.prog W = .ok (.string ⟨(R ++ [110, 49, 59]).toArray⟩) W := fun W => by
            rw [run_string_add_sum W _ _ (by rw [st_size]; have := HRL.out; show R.length + 3 ≤ _; omega)]; exact congrArg (fun z => Result.ok (Value.string z) W) (st_app R [110, 49, 59])
          obtain ⟨h, hh⟩ : ∃ h, h = R ++ [110, 49, 59] := ⟨_, rfl⟩
          rw [← hh] at ha HRT
          have HS : Hid (h.length ≤ 140737488355328) := by apply hid; rw [hh, List.length_append]; have := HRL.out; simp; omega
          clear hi hil hd hR hh
          have HM3 : Hid (∀ W, Calls Tryd.prog 3 #[St h] W fun en w' => en = .returned (.bool true) ∧ Below W.heap.size W w') := hid (fun W => HA.out.opens h W HS.out)
          have HMR : Hid (∀ W, Calls Tryd.prog 15 #[St h] W fun en w' => en = .returned (.bool (decide ((d : Int) ≤ 64))) ∧ Below W.heap.size W w') := hid (fun W => by have h' := right_list h W; rw [HRT.out] at h'; exact h')
          have HM5 : Hid (∀ W, Calls Tryd.prog 5 #[St h, St [110, 49, 59]] W fun en w' => en = .returned (.bool true) ∧ Below W.heap.size W w') := hid (fun W => HA.out.builds _ _ W HS.out (by decide))
          have HM5' : Hid (∀ W, Calls Tryd.prog 5 #[St [110, 49, 59], St h] W fun en w' => en = .returned (.bool true) ∧ Below W.heap.size W w') := hid (fun W => HA.out.builds _ _ W (by decide) HS.out)
          have HM4 : Hid (∀ W, Below w.heap.size w W → Calls Tryd.prog 4 #[.int .i64 1, St [], .slice (some ⟨W.heap.size, 0, none⟩) 1 1] (W.alloc (.cells #[St h] 22)) fun en w' => en = .returned (.bool true) ∧ Below W.heap.size W w') :=
            hid (fun W hb => makes_new HP.out hb [h] (by simp) (same_short HS.out 1) 1 (by decide) (by decide) [] (by decide))
          go_wp2_with fail
          refine (HRW.out _).mono ?_
          rintro e x0 ⟨rfl, hb⟩
          have HX0 := hid (two_own HB.out hb)
          clear hb HRW
          go_wp2_with fail
          refine (HM3.out _).mono ?_
          rintro e x1 ⟨rfl, hb⟩
          have HX1 := hid (two_own HX0.out hb)
          clear hb HM3 HX0
          go_wp2_with fail
          refine (HM5.out _).mono ?_
          rintro e x2 ⟨rfl, hb⟩
          have HX2 := hid (two_own HX1.out hb)
          clear hb HM5 HX1
          go_wp2_with fail
          refine (HM5'.out _).mono ?_
          rintro e x3 ⟨rfl, hb⟩
          have HX3 := hid (two_own HX2.out hb)
          clear hb HM5' HX2
          go_wp2_with fail
          refine (HMR.out _).mono ?_
          rintro e x4 ⟨rfl, hb⟩
          have HX4 := hid (two_own HX3.out hb)
          clear hb HMR HX3
          go_wp2_with fail
          refine (HM4.out _ (two_own HB4.out HX4.out)).mono ?_
          rintro e x5 ⟨rfl, hb⟩
          have HX5 := hid (two_own HX4.out hb)
          clear hb HM4 HX4
          go_wp2_with fail
          go_roundg (4 - (i + 1))
          case measure => have := HIL.out; omega
          case rel => exact ⟨i + 1, HIL.out, rfl, rfl, HX5.out⟩
        · have hi1 : ¬ (i : Int) < 4 := by omega
          have HB5 := hid (two_own HB4.out HB.out)
          clear hi hil HB HB4 HC3
          go_wp2_with fail
          generalize hW4 : wr.alloc (.cells #[.int .i64 4095, .int .i64 4096, .int .i64 4097] 3) = w4
          have HC4 : Hid (wr.heap.size < w4.heap.size ∧ ∀ i, i < 3 → w4.cell? ⟨wr.heap.size, i, none⟩ = some (.int .i64 ((4095 + i : Nat) : Int))) := by apply hid; rw [← hW4]; exact ⟨by simp, new_three wr⟩
          have HB6 : Hid (Below w.heap.size w w4) := by apply hid; rw [← hW4]; exact two_own HB5.out (below_alloc_self' wr _)
          clear hW4 HB5
          generalize wr.heap.size = g3 at HC4 ⊢
          clear hi1
          go_loopg [102] 3 (fun gg v wr => ∃ i : Nat, i ≤ 3 ∧ gg = 3 - i ∧ v = .int .i64 (i : Int) ∧ Below w4.heap.size w4 wr)
          case atStart => exact ⟨0, by omega, rfl, rfl, Below.refl _ _⟩
          case round =>
            obtain ⟨i, hi, rfl, rfl, hb⟩ := hrel
            have HB := hid hb
            clear hb
            by_cases hil : i < 3
            · have hi1 : (i : Int) < 3 := by omega
              have HIL := hid hil
              have hci := (HB.out.cell (p := ⟨g3, i, none⟩) HC4.out.1).trans (HC4.out.2 i hil)
              obtain ⟨n, hn⟩ : ∃ n, n = 4095 + i := ⟨_, rfl⟩
              rw [← hn] at hci
              have HRW := hid (row_any 120 n (by omega))
              obtain ⟨R, hR⟩ : ∃ R, R = List.replicate n (120 : UInt8) := ⟨_, rfl⟩
              rw [← hR] at HRW
              have hRl : R.length = n := by rw [hR]; simp
              have HS : Hid (R.length ≤ 140737488355328) := by apply hid; omega
              obtain ⟨t, E, hte, htl, hcase⟩ := text_both R (by omega)
              have HT : Hid (t.length ≤ 140737488355328) := by apply hid; omega
              have HM23 : Hid (∀ W, Below w.heap.size w W → Calls Tryd.prog 23 #[St R] W fun en w' => en = .returned (.tuple #[St t, .int .i64 (E : Int)]) ∧ Below W.heap.size W w') := by
                apply hid; intro W hb
                have h := mktext_any R W (by omega) (HP.out.below hb)
                rw [hte] at h
                exact h
              rw [hRl] at hcase
              have HM4 : Hid (∀ W, Below w.heap.size w W → Calls Tryd.prog 4 #[.int .i64 1, St R, .slice (some ⟨W.heap.size, 0, none⟩) 3 3] (W.alloc (.cells #[St t, St t, St t] 22)) fun en w' => en = .returned (.bool true) ∧ Below W.heap.size W w') :=
                hid (fun W hb => makes_new HP.out hb [t, t, t] (by simp) (same_short HT.out 3) 1 (by decide) (by decide) R HS.out)
              have HM4' : Hid (∀ W, Below w.heap.size w W → Calls Tryd.prog 4 #[.int .i64 1, St [], .slice (some ⟨W.heap.size, 0, none⟩) 4 4] (W.alloc (.cells #[St t, St t, St t, St t] 22)) fun en w' => en = .returned (.bool true) ∧ Below W.heap.size W w') :=
                hid (fun W hb => makes_new HP.out hb [t, t, t, t] (by simp) (same_short HT.out 4) 1 (by decide) (by decide) [] (by decide))
              have hnb : (n : Int) ≤ 5000 := by omega
              clear hi hil hn hR hRl hte htl
              rcases hcase with ⟨rfl, hn⟩ | ⟨rfl, hn⟩
              · have hn' : (n : Int) ≤ 4096 := by omega
                clear hn
                go_wp2_with fail
                refine (HRW.out _).mono ?_
                rintro e x0 ⟨rfl, hb⟩
                have HX0 := hid (two_own HB.out hb)
                clear hb
                go_wp2_with fail
                refine (HM23.out _ (two_own HB6.out HX0.out)).mono ?_
                rintro e x1 ⟨rfl, hb⟩
                have HX1 := hid (two_own HX0.out hb)
                clear hb HX0
                go_wp2_with fail
                refine (HRW.out _).mono ?_
                rintro e x2 ⟨rfl, hb⟩
                have HX2 := hid (two_own HX1.out hb)
                clear hb HX1
                go_wp2_with fail
                refine (HM4.out _ (two_own HB6.out HX2.out)).mono ?_
                rintro e x3 ⟨rfl, hb⟩
                have HX3 := hid (two_own HX2.out hb)
                clear hb HX2
                go_wp2_with fail
                refine (HM4'.out _ (two_own HB6.out HX3.out)).mono ?_
                rintro e x4 ⟨rfl, hb⟩
                have HX4 := hid (two_own HX3.out hb)
                clear hb HX3
                go_wp2_with fail
                go_roundg (3 - (i + 1))
                case measure => have := HIL.out; omega
                case rel => exact ⟨i + 1, HIL.out, rfl, rfl, HX4.out⟩
              · have hn' : ¬ (n : Int) ≤ 4096 := by omega
                clear hn
                go_wp2_with fail
                refine (HRW.out _).mono ?_
                rintro e x0 ⟨rfl, hb⟩
                have HX0 := hid (two_own HB.out hb)
                clear hb
                go_wp2_with fail
                refine (HM23.out _ (two_own HB6.out HX0.out)).mono ?_
                rintro e x1 ⟨rfl, hb⟩
                have HX1 := hid (two_own HX0.out hb)
                clear hb HX0
                go_wp2_with fail
                refine (HRW.out _).mono ?_
                rintro e x2 ⟨rfl, hb⟩
                have HX2 := hid (two_own HX1.out hb)
                clear hb HX1
                go_wp2_with fail
                refine (HM4.out _ (two_own HB6.out HX2.out)).mono ?_
                rintro e x3 ⟨rfl, hb⟩
                have HX3 := hid (two_own HX2.out hb)
                clear hb HX2
                go_wp2_with fail
                refine (HM4'.out _ (two_own HB6.out HX3.out)).mono ?_
                rintro e x4 ⟨rfl, hb⟩
                have HX4 := hid (two_own HX3.out hb)
                clear hb HX3
                go_wp2_with fail
                go_roundg (3 - (i + 1))
                case measure => have := HIL.out; omega
                case rel => exact ⟨i + 1, HIL.out, rfl, rfl, HX4.out⟩
            · have hi1 : ¬ (i : Int) < 3 := by omega
              have HB7 := hid (two_own HB6.out HB.out)
              clear hi hil HB HB6 HC4
              go_wp2_with fail
              clear hi1
              obtain ⟨w5, rfl⟩ : ∃ w5, w5 = wr := ⟨_, rfl⟩
              have HB8 : Hid (Below w5.heap.size w5 w5) := hid (Below.refl _ _)
              obtain ⟨i0, hti, hz0, hz1, hz2⟩ := info_parts Tryd.info22
              go_loopg [11, 12] 34 (fun gg v11 v12 wx => ∃ (j : Nat) (ao : Option Addr) (kc : Nat), j ≤ 34 ∧ gg = 34 - j ∧ v11 = .slice ao j kc ∧ v12 = .int .i64 (j : Int) ∧ wx.ownsRow w5.heap.size 22 1 (.slice ao j kc) j (List.replicate j (St [110, 49, 59])) ∧ Below w5.heap.size w5 wx)
              case atStart => exact ⟨0, none, 0, by omega, rfl, rfl, rfl, World.ownsRow_nil _ _ _ _, HB8.out⟩
              case round =>
                obtain ⟨j, ao, kc, hj, rfl, rfl, rfl, hown, hbx⟩ := hrel
                have HO := hid hown
                have HBX := hid hbx
                clear hown hbx
                by_cases hjl : j < 34
                · have hj1 : (j : Int) < 34 := by omega
                  have HJL := hid hjl
                  clear hj
                  obtain ⟨v2, w2', hrun, hown2, hg2, _⟩ := run_append_own (P := Tryd.prog) (wr.alloc (.cells #[St [110, 49, 59]] 22)) w5.heap.size 23 23 22 i0 _ 1 16 Tryd.underlying23 hti hz0 hz1 hz2 rfl (by decide) (.slice ao j kc) j (List.replicate j (St [110, 49, 59])) (World.ownsRow.alloc HO.out _) ⟨wr.heap.size, 0, none⟩ 1 1 [St [110, 49, 59]] (by simp) (cell_one_new _ _ _) (by intro u hu; simp at hu; subst hu; rfl) (by unfold maxLen; omega) (by omega) (by have := HBX.out.size; simp; omega)
                  have HB2' := hid (below_own (HBX.out.alloc HBX.out.size _) (World.ownsRow.alloc HO.out _) hg2)
                  have HO2 := hid hown2
                  obtain ⟨ao2, kk2, rfl⟩ := own_slc hown2
                  have HRUN : Hid (∀ ty, (Builtin.append_ #[23, 23] ty #[.slice ao j kc, .slice (some ⟨wr.heap.size, 0, none⟩) 1 1]).run Tryd.prog (wr.alloc (.cells #[St [110, 49, 59]] 22)) = .ok (.slice ao2 (j + 1) kk2) w2') := hid (fun ty => hrun)
                  clear hown2 hg2 hrun hjl
                  go_wp2_with (first | (at_builtin; refine wpList_append_run rfl (.tmp 141) (.tmp 142) 23 rfl (.slice ao j kc) (.slice (some ⟨wr.heap.size, 0, none⟩) 1 1) (.slice ao2 (j + 1) kk2) w2' rfl rfl HRUN.out ?_))
                  go_roundg (34 - (j + 1))
                  case measure => have := HJL.out; omega
                  case rel => exact ⟨j + 1, ao2, kk2, HJL.out, rfl, rfl, rfl, by have h := HO2.out; rw [← List.replicate_succ'] at h; exact h, HB2'.out⟩
                · have hj1 : ¬ (j : Int) < 34 := by omega
                  obtain rfl : j = 34 := by omega
                  clear hj hjl hj1
                  obtain ⟨g4, ha4, hg4, hk4, hc4⟩ := own_cells HO.out (by decide)
                  have HG4 := hid (And.intro hg4 hc4)
                  have HK4 := hid hk4
                  subst ha4
                  have HB9 := hid (two_own HB7.out HBX.out)
                  clear hg4 hk4 hc4 HO HBX HB7 HB8
                  go_wp2_with fail
                  obtain ⟨wx, rfl⟩ : ∃ wx, wx = wr := ⟨_, rfl⟩
                  go_loopg [13, 14] 33 (fun gg v13 v14 wy => ∃ (j : Nat) (F : Bs), j ≤ 33 ∧ gg = 33 - j ∧ v13 = St F ∧ v14 = .int .i64 (j : Int) ∧ F.length = 3 * j ∧ wy = wx)
                  case atStart => exact ⟨0, [], by omega, rfl, rfl, rfl, rfl, rfl⟩
                  case round =>
                    obtain ⟨j, F, hj, rfl, rfl, rfl, hF, rfl⟩ := hrel
                    by_cases hjl : j < 33
                    · have hj1 : (j : Int) < 33 := by omega
                      have HJL := hid hjl
                      have ha : ∀ W, (Op.stringOp .add (⟨F.toArray⟩ : ByteArray) ⟨#[110, 49, 59]⟩).run Tryd.prog W = .ok (.string ⟨(F ++ [110, 49, 59]).toArray⟩) W := fun W => by
                        rw [run_string_add_sum W _ _ (by rw [st_size]; show F.length + 3 ≤ _; omega)]; exact congrArg (fun z => Result.ok (Value.string z) W) (st_app F [110, 49, 59])
                      have HF := hid hF
                      clear hj hjl hF
                      go_wp2_with fail
                      go_roundg (33 - (j + 1))
                      case measure => have := HJL.out; omega
                      case rel => exact ⟨j + 1, F ++ [110, 49, 59], HJL.out, rfl, rfl, rfl, by rw [List.length_append, HF.out]; simp; omega, rfl⟩
                    · have hj1 : ¬ (j : Int) < 33 := by omega
                      have HF : Hid (F.length = 99) := by apply hid; omega
                      clear hj hjl hF
                      go_wp2_with fail
                      clear hj1
                      generalize hW6 : (wr.alloc (.cells #[St [84, 51, 49, 58], St [84, 51, 50, 58], St [84, 51, 51, 58]] 9)).alloc (.cells #[.int .i64 31, .int .i64 32, .int .i64 33] 3) = w6
                      have HC6 : Hid (wr.heap.size + 1 < w6.heap.size ∧ ∀ i, i < 3 → w6.cell? ⟨wr.heap.size, i, none⟩ = some (St (hds.getD i [])) ∧ w6.cell? ⟨wr.heap.size + 1, i, none⟩ = some (.int .i64 ((31 + i : Nat) : Int))) := by apply hid; rw [← hW6]; exact ⟨by simp, heads_cells wr⟩
                      have HBA : Hid (Below wr.heap.size wr w6) := by apply hid; rw [← hW6]; exact two_own (below_alloc_self' wr _) (below_alloc_self' _ _)
                      have HB10 := hid (two_own HB9.out HBA.out)
                      have HM4 := hid (fun (W : World) (hb : Below w6.heap.size w6 W) (q : Nat) (hq : q ≤ 34) (n : Nat) (hn : n ≤ 100) => makes_first (k := fun _ => [110, 49, 59]) (HP.out.below HB10.out) (fun _ => by decide) (Nat.lt_of_lt_of_le HG4.out.1 HBA.out.size) (fun i hi => (HBA.out.cell (p := ⟨g4, i, none⟩) HG4.out.1).trans (HG4.out.2 i hi)) q kc hq (by omega) (n : Int) (by omega) (by omega) [] (by decide) hb)
                      clear hW6 HBA HB9 HG4
                      generalize wr.heap.size = g5 at HC6 ⊢
                      go_loopg [153] 3 (fun gg v wr => ∃ i : Nat, i ≤ 3 ∧ gg = 3 - i ∧ v = .int .i64 (i : Int) ∧ Below w6.heap.size w6 wr)
                      case atStart => exact ⟨0, by omega, rfl, rfl, Below.refl _ _⟩
                      case round =>
                        obtain ⟨i, hi, rfl, rfl, hb⟩ := hrel
                        have HB := hid hb
                        clear hb
                        by_cases hil : i < 3
                        · have hi1 : (i : Int) < 3 := by omega
                          have HIL := hid hil
                          obtain ⟨q, hq⟩ : ∃ q, q = 31 + i := ⟨_, rfl⟩
                          have hci2 := (HB.out.cell (p := ⟨g5 + 1, i, none⟩) HC6.out.1).trans (HC6.out.2 i hil).2
                          rw [← hq] at hci2
                          have HCI : Hid (∀ W, Below w6.heap.size w6 W → W.cell? ⟨g5, i, none⟩ = some (St (hds.getD i []))) := hid (fun W hb => (hb.cell (p := ⟨g5, i, none⟩) (by have := HC6.out.1; show g5 < _; omega)).trans (HC6.out.2 i hil).1)
                          have HHL := hid (hds_short i)
                          generalize hds.getD i [] = hd at HCI HHL
                          have hci := HCI.out _ HB.out
                          have S0 := hid hci
                          obtain ⟨p3, hp3⟩ : ∃ p3, p3 = 3 * q := ⟨_, rfl⟩
                          have hq1 : (q : Int) - 31 = (i : Int) := by omega
                          have hq2 : IntKind.i64.wrap (i : Int) = (i : Int) := by rw [IntKind.wrap_i64]; omega
                          have hp4 : 3 * (q : Int) = (p3 : Int) := by omega
                          have hp5 : IntKind.i64.wrap (p3 : Int) = (p3 : Int) := by rw [IntKind.wrap_i64]; omega
                          have hs1 : ∀ W, (Instr.sliceAt 23 (.slice (some ⟨g4, 0, none⟩) 34 kc) none (some (.int .i64 (q : Int))) none).run Tryd.prog W = .ok (.slice (some ⟨g4, 0, none⟩) q kc) W := slice_to _ 34 kc q (by have := HK4.out; omega)
                          obtain ⟨G, hGl, hs2⟩ := slice_str F p3 (by have := HF.out; omega)
                          have HGL : Hid (G.length ≤ 99) := by apply hid; have := HF.out; omega
                          have ha : ∀ W, (Op.stringOp .add (⟨hd.toArray⟩ : ByteArray) ⟨G.toArray⟩).run Tryd.prog W = .ok (.string ⟨(hd ++ G).toArray⟩) W := fun W => by
                            rw [run_string_add_sum W _ _ (by rw [st_size, st_size]; have := HGL.out; have := HHL.out; omega), st_app]
                          have HM3 : Hid (∀ W, Calls Tryd.prog 3 #[St (hd ++ G)] W fun en w' => en = .returned (.bool true) ∧ Below W.heap.size W w') := hid (fun W => HA.out.opens _ W (by rw [List.length_append]; have := HGL.out; have := HHL.out; omega))
                          have HM4q : Hid (∀ W, Below w6.heap.size w6 W → Calls Tryd.prog 4 #[.int .i64 (q : Int), St [], .slice (some ⟨g4, 0, none⟩) q kc] W fun en w' => en = .returned (.bool true) ∧ Below W.heap.size W w') := hid (fun W hb => HM4.out W hb q (by omega) q (by omega))
                          have hqb : (q : Int) < 34 := by omega
                          clear hi hil hq hp3 hGl
                          generalize hd ++ G = hG at ha HM3
                          go_wp2_with fail
                          go_region_held3 (fun wx => wx.cell? ⟨g5, i, none⟩ = some (St hd)) (first | exact S0.out | exact S2.out | exact S3.out) (first | (go_at_call 4; refine (HM4q.out _ (of_drew HB.out)).mono ?_; rintro e x2 ⟨rfl, hb2⟩; have HX2 := hid (two_own (of_drew HB.out) hb2); have S2 := hid (HCI.out _ HX2.out); clear hb2) | (go_at_call 3; refine (HM3.out _).mono ?_; rintro e x3 ⟨rfl, hb3⟩; have HX3 := hid (two_own HX2.out hb3); have S3 := hid (HCI.out _ HX3.out); clear hb3))
                          go_wp2_with fail
                          go_roundg (3 - (i + 1))
                          case measure => have := HIL.out; omega
                          case rel => exact ⟨i + 1, HIL.out, rfl, rfl, HX3.out⟩
                        · have hi1 : ¬ (i : Int) < 3 := by omega
                          clear hi hil
                          go_wp2_with fail
                          refine (works_any _).mono ?_
                          rintro e w8 ⟨rfl, hb⟩
                          have HB12 := hid (two_own (two_own HB10.out HB.out) hb)
                          clear hb
                          go_wp2_with fail
                          go_ret
                          exact ⟨rfl, HB12.out⟩
end Go.Proofs.YtcmpiffkmnbepaaDoor

/- One start that fits: the listed variables as the program's own text lays them. -/
namespace Go.Proofs.YtcmpiffkmnbepaaDoor
open Go.ChangeShapes Go.WideShapes Go.ChangeAt Go.RowKit

theorem own : ownKnob Tryd.prog.godebug = none := by kernel_rfl

/-- the listed variables -/
def laid3 : List (String × DataW Unit) := Rows.termSignsRow.laid

set_option maxRecDepth 100000 in
theorem door_met (os : Os) (args : Array Value) : laidMetH Tryd.prog laid3 ((World.doorLaid Tryd.prog 400 os).forCall (fun _ _ => 0) ⟨#[], args, []⟩).memory :=
  laidMetH_of_parts3 (fuel := 8) (laidMet_of_run' 8 (by kernel_rfl) (by kernel_rfl)) (by kernel_rfl) (by kernel_rfl)

/-- a text of an argument is short enough -/
theorem reach_len {s : ByteArray} (h : s.data.toList.length ≤ reachBytes) : s.data.toList.length ≤ 140737488355328 := by
  have h2 := reachBytes_lt
  have e3 : (2 : Nat) ^ 47 = 140737488355328 := by decide
  omega
end Go.Proofs.YtcmpiffkmnbepaaDoor

/- Terms that came in; the table of powers as the program's text lays it. -/
namespace Go.Proofs.YtcmpiffkmnbepaaDoor
open Go.ChangeShapes Go.WideShapes Go.ChangeAt Go.RowKit

theorem laidOut : laidOutB Tryd.prog = true := by kernel_rfl
theorem Tryd.cells22 : Tryd.prog.cellsOf 22 = 1 := by kernel_rfl
theorem Tryd.cells57 : Tryd.prog.cellsOf 57 = 1 := by kernel_rfl
theorem Tryd.cells89 : Tryd.prog.cellsOf 89 = 20 := by kernel_rfl
theorem Tryd.gPow : Tryd.prog.globalNamed "internal/strconv.uint64pow10" = some 0 := by kernel_rfl
theorem Tryd.gPowType : (Tryd.prog.globals[0]?).map (·.type) = some 89 := by kernel_rfl

theorem pw_of_laid {W : World} (h : laidMetH Tryd.prog laid3 W) : Pw W := by
  have h1 : laidMet Tryd.prog laid3 W := h
  have h2 : laidMet Tryd.prog (("internal/strconv.uint64pow10", Lib.tabData .u64 Lib.pow10Tab) :: []) W := (h1.tail).tail
  exact Lib.tabIs_of_head Tryd.gPow Tryd.gPowType Tryd.underlying89 Tryd.underlying57 Tryd.cells57 Tryd.cells89 h2

theorem plain_of_cell {w : World} {a : Addr} {v : Value} (h : w.cell? a = some v) : a = ⟨a.block, a.off, none⟩ ∧ a.block < w.heap.size := by
  unfold World.cell? at h
  split at h
  · rename_i c e fr hb
    split at h
    · cases h
    · rename_i hs
      refine ⟨?_, lt_of_block hb⟩
      cases a with
      | mk b o s => cases s with
        | none => rfl
        | some x => simp at hs
  · cases h

theorem weights_mem {H : Type} {P : Program} {e : TypeId} {x : Nat} {d : DataW H} : ∀ {l : List (DataW H)}, d ∈ l → x ∈ d.weights P e → x ∈ DataW.weightsAll P e l
  | y :: r, hd, hx => by
    rw [DataW.weightsAll, List.mem_append]
    rcases List.mem_cons.1 hd with rfl | h
    · exact Or.inl hx
    · exact Or.inr (weights_mem h hx)

/-- the terms that came in -/
theorem terms_of {H : Type} {enc : TypeId × Value → H} {W : World} {sp : Nat → Bool} {held : Bool} {n : Nat} {v : Value} {d : DataW H} {p : List MemPlace} (h : DataW.trod enc Tryd.prog W 0 sp held n 23 [v] = some (d, p)) (hw : ∀ x ∈ d.weights Tryd.prog 23, x ≤ reachBytes) :
    ∃ (a : Option Addr) (cap : Nat) (ks : List Bs), v = .slice a ks.length cap ∧ Texts W (.slice a ks.length cap) ks ∧ ks.length ≤ maxLen ∧ ∀ i (h : i < ks.length), ks[i].length ≤ 140737488355328 := by
  rcases Go.Deep.open_slice1 Tryd.underlying23 Tryd.cells22 h with ⟨hcs, _⟩ | ⟨a, len, cap, m, k, V, D, Pl, hcs, _, hl, hm, hmm, hx, hel⟩
  · exact ⟨none, 0, [], by simpa using hcs, texts_nil W, by simp, fun i hi => by simp at hi⟩
  · have hlm : len ≤ m := by rw [hmm]; split <;> omega
    have hd : d = .slice ((List.range len).map D) ((List.range (m - len)).map fun j => D (len + j)) := (Prod.mk.inj hx).1
    have hwi : ∀ i, i < len → ∀ x ∈ (D i).weights Tryd.prog 22, x ≤ reachBytes := by
      intro i hi x hxm
      apply hw
      rw [hd, DataW.weights, Tryd.underlying23]
      refine List.mem_cons_of_mem _ (List.mem_append_left _ (weights_mem (d := D i) ?_ hxm))
      exact List.mem_map.2 ⟨i, List.mem_range.2 hi, rfl⟩
    have each : ∀ i : Nat, ∃ c : Bs, i < len → c.length ≤ 140737488355328 ∧ V i = St c := by
      intro i
      by_cases hi : i < len
      · obtain ⟨s, hs1, hs2, _⟩ := DataW.trod_string Tryd.underlying22 (hel i (by omega)).2
        have hD : D i = .lit (.string s.data.toList) := (Prod.mk.inj hs2).1
        have hb := hwi i hi s.data.toList.length (by rw [hD, DataW.weights]; exact List.mem_cons_self)
        exact ⟨s.data.toList, fun _ => ⟨reach_len hb, by simpa using hs1⟩⟩
      · exact ⟨[], fun h => absurd h hi⟩
    obtain ⟨f, hf⟩ := Classical.axiomOfChoice each
    have hlen : ((List.range len).map f).length = len := by simp
    have hg : ∀ i (h : i < ((List.range len).map f).length), ((List.range len).map f)[i] = f i := by
      intro i hi; simp
    refine ⟨some a, cap, (List.range len).map f, by rw [hlen]; simpa using hcs, ⟨_, _, rfl, fun h0 => ?_⟩, by rw [hlen]; omega, fun i hi => ?_⟩
    · have h0' : 0 < len := by
        apply Nat.pos_of_ne_zero; intro e; apply h0; rw [e]; rfl
      have hc0 := (hel 0 (by omega)).1
      have e0 : a.add 0 = a := by simp [Addr.add]
      rw [e0] at hc0
      obtain ⟨ha, hlt⟩ := plain_of_cell hc0
      refine ⟨a.block, a.off, by rw [← ha], hlt, fun i hi => ?_⟩
      have hi' : i < len := by rw [hlen] at hi; exact hi
      have hc := (hel i (by omega)).1
      rw [ha, add_plain] at hc
      rw [hc, (hf i hi').2, hg i hi]
    · rw [hg i hi]
      rw [hlen] at hi
      exact (hf i hi).1
end Go.Proofs.YtcmpiffkmnbepaaDoor

/- Proved: TermKnown, which takes nothing, answers true; the listed tables of the library start as the program's text lays them. -/
namespace Go.Proofs.YtcmpiffkmnbepaaDoor
open Go.ChangeShapes Go.WideShapes Go.ChangeAt Go.RowKit

/-- every other law, as proved -/
theorem all_laws : AllLaws := ⟨opens_law, builds_any, asks_any, back_any, agr_any, keys_any, signs_any⟩
theorem asked_law (k : Nat → Bs) (h : ∀ i, (k i).length ≤ 140737488355328) (g : Nat) (w : World) (h1 : g < w.heap.size) (h2 : ∀ i, i < 25 → w.cell? ⟨g, i, none⟩ = some (St (k i))) (hp : Pw w) :
    Calls Tryd.prog 47 #[.slice (some ⟨g, 0, none⟩) 25 25] w fun en w' => en = .returned (.bool true) ∧ Below w.heap.size w w' := asked_any all_laws k h g w h1 h2 hp

set_option maxRecDepth 100000 in
theorem known_lifted (os : Os) (started : os.Started) (H : Type) (enc : TypeId × Value → H) :
    ReturnsInHanded {} Tryd.checked os 11 .any (fun w args => (Rows.termKnownSpec.pre enc Tryd.prog Tryd.f11 [] false w args ∧ laidMetH Tryd.prog laid3 w) ∧ sizedMet enc Tryd.prog Tryd.f11 (OpenSpec.ofChange Rows.termKnownSpec) false w args)
      (Rows.termKnownSpec.post enc Tryd.prog Tryd.f11 false true false false) := by
  refine returnsInHanded_of_change_and (C := Tryd.checked) (X := fun w _ => laidMetH Tryd.prog laid3 w) (fun _ _ _ hh h => h.of_heap hh) own started (by kernel_rfl) Tryd.func11
    (ChangeSpec.witness_shaped (enc := enc) (C := Tryd.checked) (os := os) (X := fun w _ => laidMetH Tryd.prog laid3 w) false (World.doorLaid Tryd.prog 400 os) #[] 8 rfl (World.shaped_of_RefB (by kernel_rfl) (by kernel_rfl)) (by kernel_rfl) (by kernel_rfl) (by kernel_rfl) (door_met os _)) ?_
  intro W base args ds gs before hval0 hW _ hsz0 hL _
  have hval : ∀ (j : Nat) t v, Tryd.f11.params[j]? = some t → args[j]? = some v → Value.okWide Tryd.prog W .any base t v := hval0
  have hW' := hW
  obtain ⟨p, q, hA0, hV, rfl, hfz, hnd⟩ := hW
  have hA : DataW.TrodAll enc Tryd.prog W 0 (fun _ => true) true Tryd.f11.params.toList args.toList ds p := hA0
  rw [Tryd.params11] at hA hval
  have hpw := pw_of_laid hL
  obtain ⟨rfl, rfl⟩ := trodVars_none hV
  clear hA0 hval0 hsz0
  simp only [List.append_nil] at hW'
  obtain ⟨rfl, rfl, rfl⟩ := trodAll_none hA
  refine (known_any all_laws asked_law W hpw).mono fun e W' ⟨he, hb⟩ => ?_
  subst he
  refine ⟨_, rfl, _, _, _, [], [], [], hW', ?_, ?_, rfl, hb.frame _, fun h => by cases h⟩
  · exact trodAll_mk1 (shut_bool Tryd.underlying4 _)
  · exact trodAll_mk0

theorem known_holds : Rows.TermKnownSaid :=
  OpenClaim.holds_of_wide 11 Tryd.f11 rfl rfl rfl rfl rfl rfl rfl ⟨rfl, rfl, rfl, rfl, rfl⟩ rfl rfl rfl rfl rfl (by kernel_rfl) Tryd.func11 (by kernel_rfl)
    (of_decide_eq_true (by kernel_rfl)) (by unfold Func.isWrapper; rw [if_neg (of_decide_eq_false (by kernel_rfl))]; exact ⟨rfl, rfl⟩)
    (fun os started H enc _ => known_lifted os started H enc)

theorem known_card : Rows.TermKnownCardSaid :=
  Claim7.holds_tied_plain_at .later [] [.data, .data, .data] true Rows.termKnownCard.stood.harness false
    known_holds (fun _ h => by cases h) (by kernel_rfl) (fun _ h => by cases h) termKnown_row_tie rfl ⟨rfl, rfl⟩ (by kernel_rfl) rfl
    (fun f fn hf hfn => by
      obtain rfl : f = 11 := Option.some.inj ((show Tryd.prog.funcNamed Rows.termKnownRow.func = some 11 by kernel_rfl).symm.trans hf) |>.symm
      obtain rfl : fn = Tryd.f11 := (Option.some.inj (Tryd.func11.symm.trans hfn)).symm
      exact ⟨by kernel_rfl, fun j t ht => by
        rw [Tryd.params11] at ht
        have hm : t ∈ ([] : List TypeId) := by simpa using Array.mem_of_getElem? ht
        have hall : (([] : List TypeId).all fun u => !Tryd.prog.wantsStandIn u) = true := by kernel_rfl
        exact (show Tryd.prog.wantsStandIn t = false by simpa using List.all_eq_true.1 hall t hm)⟩)
    (by kernel_rfl)
#print axioms known_card
end Go.Proofs.YtcmpiffkmnbepaaDoor
