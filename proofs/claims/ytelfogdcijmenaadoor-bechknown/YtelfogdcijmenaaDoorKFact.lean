/- The examples' answers. -/
import Derived.Test.YtelfogdcijmenaaDoorLBk
import Derived.Test.YtelfogdcijmenaaDoorLBt
namespace Go.Proofs.YtelfogdcijmenaaDoor
open Go.RowKit

def goods : List Bs := [[65, 49, 50, 85, 69, 76, 53, 76], [97, 49, 50, 117, 101, 108, 53, 108], [97, 110, 56, 51, 99, 104, 97, 114, 97, 99, 116, 101, 114, 108, 111, 110, 103, 104, 117, 109, 97, 110, 114, 101, 97, 100, 97, 98, 108, 101, 112, 97, 114, 116, 116, 104, 97, 116, 99, 111, 110, 116, 97, 105, 110, 115, 116, 104, 101, 110, 117, 109, 98, 101, 114, 49, 97, 110, 100, 116, 104, 101, 101, 120, 99, 108, 117, 100, 101, 100, 99, 104, 97, 114, 97, 99, 116, 101, 114, 115, 98, 105, 111, 49, 116, 116, 53, 116, 103, 115], [97, 98, 99, 100, 101, 102, 49, 113, 112, 122, 114, 121, 57, 120, 56, 103, 102, 50, 116, 118, 100, 119, 48, 115, 51, 106, 110, 53, 52, 107, 104, 99, 101, 54, 109, 117, 97, 55, 108, 109, 113, 113, 113, 120, 119], [49, 49, 113, 113, 113, 113, 113, 113, 113, 113, 113, 113, 113, 113, 113, 113, 113, 113, 113, 113, 113, 113, 113, 113, 113, 113, 113, 113, 113, 113, 113, 113, 113, 113, 113, 113, 113, 113, 113, 113, 113, 113, 113, 113, 113, 113, 113, 113, 113, 113, 113, 113, 113, 113, 113, 113, 113, 113, 113, 113, 113, 113, 113, 113, 113, 113, 113, 113, 113, 113, 113, 113, 113, 113, 113, 113, 113, 113, 113, 113, 113, 113, 113, 113, 99, 56, 50, 52, 55, 106], [115, 112, 108, 105, 116, 49, 99, 104, 101, 99, 107, 117, 112, 115, 116, 97, 103, 101, 104, 97, 110, 100, 115, 104, 97, 107, 101, 117, 112, 115, 116, 114, 101, 97, 109, 101, 114, 114, 97, 110, 116, 101, 114, 114, 101, 100, 99, 97, 112, 101, 114, 114, 101, 100, 50, 121, 57, 101, 51, 119], [63, 49, 101, 122, 121, 102, 99, 108]]
def bads : List Bs := [[32, 49, 110, 119, 108, 100, 106, 53], [127, 49, 97, 120, 107, 119, 114, 120], [128, 49, 101, 121, 109, 53, 53, 104], [112, 122, 114, 121, 57, 120, 48, 115, 48, 109, 117, 107], [49, 112, 122, 114, 121, 57, 120, 48, 115, 48, 109, 117, 107], [120, 49, 98, 52, 110, 48, 113, 53, 118], [108, 105, 49, 100, 103, 109, 116, 51], [100, 101, 49, 108, 103, 55, 119, 116, 255], [49, 48, 97, 48, 54, 116, 56], [49, 113, 122, 122, 102, 104, 101, 101], [65, 49, 50, 117, 101, 108, 53, 108], [], [49], [97, 49], [97, 110, 56, 52, 99, 104, 97, 114, 97, 99, 116, 101, 114, 115, 108, 111, 110, 103, 104, 117, 109, 97, 110, 114, 101, 97, 100, 97, 98, 108, 101, 112, 97, 114, 116, 116, 104, 97, 116, 99, 111, 110, 116, 97, 105, 110, 115, 116, 104, 101, 110, 117, 109, 98, 101, 114, 49, 97, 110, 100, 116, 104, 101, 101, 120, 99, 108, 117, 100, 101, 100, 99, 104, 97, 114, 97, 99, 116, 101, 114, 115, 98, 105, 111, 49, 53, 54, 57, 112, 118, 120]]
theorem goods_ok : ∀ s ∈ goods, (decB s).2.2 = 0 ∧ s.length ≤ 1000 := by decide +kernel
theorem bads_ok : ∀ s ∈ bads, (decB s).2.2 = 60 ∧ s.length ≤ 1000 := by decide +kernel
theorem kd_a : decB [97, 49, 50, 117, 101, 108, 53, 109] = ([], [], 61) := by decide +kernel
theorem kd_b : decB [65, 49, 71, 55, 83, 71, 68, 56] = ([], [], 61) := by decide +kernel
theorem ke_c : encB [] [] = ([], 60) := by decide +kernel
theorem ke_d : encB [65] [] = ([], 60) := by decide +kernel
theorem ke_e : encB (List.replicate 84 97) [] = ([], 60) := by decide +kernel
theorem ke_f : encB [97] [32] = ([], 60) := by decide +kernel
theorem kb_x : bitsR [255, 0] 8 5 true = ([31, 28, 0, 0], 0) := by decide +kernel
theorem kb_y : bitsR [31, 28, 0, 0] 5 8 false = ([255, 0], 0) := by decide +kernel
theorem kb_z : bitsR [31, 29, 0, 0] 5 8 false = ([255, 64], 0) := by decide +kernel
theorem kb_n : bitsR [31] 5 8 false = ([], 50) := by decide +kernel
theorem kb_o : bitsR [32] 5 8 true = ([], 50) := by decide +kernel
theorem kb_p : bitsR [1] 0 8 true = ([], 2) := by decide +kernel
theorem kb_q : bitsR [1] 8 9 true = ([], 2) := by decide +kernel
/-- a head of 83 letters and noughts -/
theorem head_fit : (!fitB (List.replicate 83 97) || (List.replicate 83 (97 : UInt8)).any outB || (List.replicate 83 (97 : UInt8)).any capB) = false := by decide +kernel
theorem noughts_words (n : Nat) : (List.replicate n (0 : UInt8)).any nwB = false := by
  rw [List.any_eq_false]
  intro x hx
  rw [(List.mem_replicate.1 hx).2]
  decide
theorem ke_most : ∃ s, encB (List.replicate 83 97) (List.replicate 32678 0) = (s, 0) := by
  refine ⟨textB (List.replicate 83 97) (List.replicate 32678 0), ?_⟩
  unfold encB
  rw [head_fit, noughts_words, List.length_replicate, List.length_replicate]
  rfl
theorem ke_over : encB (List.replicate 83 97) (List.replicate 32679 0) = ([], 3) := by
  unfold encB
  rw [head_fit, noughts_words, List.length_replicate, List.length_replicate]
  rfl
theorem kd_over {s : Bs} (h : 32768 < s.length) : decB s = ([], [], 3) := by
  unfold decB
  rw [if_pos h]
end Go.Proofs.YtelfogdcijmenaaDoor
