/- LockKnown: what each of those operations brings. -/
import Derived.Test.YtdllpklecdmghaaGreatDoorKnE
namespace Go.Proofs.YtdllpklecdmghaaGreatDoor
open Go.RowKit
open Lk (Lt)
def kqs : Array Oper := #[kq0, kq1, kq2, kq3, kq4, kq5, kq6, kq7, kq8, kq9, kq10, kq11, kq12, kq13, kq14, kq15, kq16, kq17, kq18, kq19, kq20, kq21, kq22, kq23, kq24, kq25, kq26, kq27, kq28, kq29, kq30, kq31, kq32, kq33, kq34, kq35, kq36, kq37, kq38, kq39, kq40, kq41, kq42, kq43, kq44, kq45, kq46, kq47, kq48, kq49, kq50, kq51, kq52, kq53, kq54, kq55, kq56, kq57, kq58, kq59, kq60, kq61, kq62, kq63, kq64, kq65, kq66, kq67, kq68, kq69, kq70, kq71, kq72, kq73, kq74, kq75, kq76, kq77, kq78, kq79, kq80, kq81, kq82, kq83, kq84, kq85, kq86, kq87, kq88]
theorem kqs_size : kqs.size = 89 := rfl
set_option maxRecDepth 10000 in
theorem kqs_back (i : Nat) (o : Oper) (h : kqs[i]? = some o) : ∀ e ∈ o.after, e.on < i := by
  have hall : ∀ j : Fin 89, ∀ e ∈ (kqs[j.1]'(by have := j.2; have := kqs_size; omega)).after, e.on < j.1 := by decide +kernel
  obtain ⟨hi, rfl⟩ := Array.getElem?_eq_some_iff.1 h
  exact hall ⟨i, by have := kqs_size; omega⟩
def kqF (g9 c9 : Nat) : Nat → Sq
  | 0 => .lk (.mk 0 [] 0 [])
  | 1 => .lk (.mk 7 [] 0 [])
  | 2 => .lk (.mk 1 [80, 110, 49, 59] 0 [])
  | 3 => .lk (.mk 1 [110, 49, 59] 0 [])
  | 4 => .lk (.mk 1 [] 0 [])
  | 5 => .lk (.mk 1 [87, 80, 110, 49, 59, 80, 110, 50, 59] 0 [])
  | 6 => .lk (.mk 1 [76, 80, 110, 49, 59, 116, 48, 58] 0 [])
  | 7 => .lk (.mk 1 [72, 110, 49, 59] 0 [])
  | 8 => .lk (.mk 2 [72, 110, 49, 59] 0 [])
  | 9 => .lk (.mk 2 [80, 110, 49, 59] 0 [])
  | 10 => .lk (.mk 2 [] 0 [])
  | 11 => .lk aft7
  | 12 => .lk (.mk 3 [] (-1) [])
  | 13 => .lk (.mk 3 [] (1073741823) [])
  | 14 => .lk (.mk 3 [] (1073741824) [])
  | 15 => .lk (.mk 4 [] (0) [])
  | 16 => .lk (.mk 4 [] (1073741824) [])
  | 17 => .lk (.mk 5 [] 0 [])
  | 18 => .lk (.mk 6 [] 0 [])
  | 19 => .lk aft7
  | 20 => .row [aft7]
  | 21 => .lk (.mk 5 [] 0 [aft7])
  | 22 => .lk aft7
  | 23 => .lk (.mk 4 [] (2) [])
  | 24 => .row [aft7, (.mk 4 [] (2) [])]
  | 25 => .lk (.mk 6 [] 0 [aft7, (.mk 4 [] (2) [])])
  | 26 => .lk wide8
  | 27 => .eq (.slice (some ⟨g9, 0, none⟩) 9 c9)
  | 28 => .lk (.mk 6 [] 0 (List.replicate 9 aft7))
  | 29 => .lk wide8
  | 30 => .lk wide8
  | 31 => .lk wide8
  | 32 => .lk wide8
  | 33 => .lk wide8
  | 34 => .lk wide8
  | 35 => .lk wide8
  | 36 => .lk wide8
  | 37 => .row [wide8, wide8, wide8, wide8, wide8, wide8, wide8, wide8]
  | 38 => .lk (.mk 5 [] 0 [wide8, wide8, wide8, wide8, wide8, wide8, wide8, wide8])
  | 39 => .lk wide8
  | 40 => .lk wide8
  | 41 => .lk wide8
  | 42 => .lk wide8
  | 43 => .lk wide8
  | 44 => .lk wide8
  | 45 => .eq (.slice (some ⟨g9, 0, none⟩) 9 c9)
  | 46 => .eq (.slice (some ⟨g9, 0, none⟩) 7 c9)
  | 47 => .lk (.mk 5 [] 0 (List.replicate 7 aft7))
  | 48 => .row [wide8, wide8, wide8, wide8, wide8, wide8, (.mk 5 [] 0 (List.replicate 7 aft7))]
  | 49 => .lk (.mk 5 [] 0 [wide8, wide8, wide8, wide8, wide8, wide8, (.mk 5 [] 0 (List.replicate 7 aft7))])
  | 50 => .lk wide8
  | 51 => .lk wide8
  | 52 => .lk wide8
  | 53 => .lk wide8
  | 54 => .lk wide8
  | 55 => .lk wide8
  | 56 => .lk wide8
  | 57 => .row [wide8, wide8, wide8, wide8, wide8, wide8, wide8]
  | 58 => .lk (.mk 5 [] 0 [wide8, wide8, wide8, wide8, wide8, wide8, wide8])
  | 59 => .lk wide8
  | 60 => .lk (.mk 0 [] 0 [])
  | 61 => .row [wide8, (.mk 0 [] 0 [])]
  | 62 => .lk (.mk 5 [] 0 [wide8, (.mk 0 [] 0 [])])
  | 63 => .lk (.mk 3 [110, 49, 59] 1 [])
  | 64 => .lk (.mk 1 [80, 110, 49, 59] 1 [])
  | 65 => .lk aft7
  | 66 => .row [aft7]
  | 67 => .lk (.mk 2 [72, 110, 49, 59] 0 [aft7])
  | 68 => .lk aft7
  | 69 => .row [aft7]
  | 70 => .lk (.mk 5 [] 1 [aft7])
  | 71 => .lk aft7
  | 72 => .row [aft7]
  | 73 => .lk (.mk 6 [110, 49, 59] 0 [aft7])
  | 74 => .lk aft7
  | 75 => .row [aft7]
  | 76 => .lk (.mk 4 [] 0 [aft7])
  | 77 => .lk (deepL 62)
  | 78 => .lk (deepL 63)
  | 79 => .lk (deepL 64)
  | 80 => .lk (.mk 1 [80, 110, 49, 59] 0 [])
  | 81 => .lk (.mk 2 [72, 110, 50, 59] 0 [])
  | 82 => .lk (.mk 4 [] (6) [])
  | 83 => .row [(.mk 2 [72, 110, 50, 59] 0 []), (.mk 4 [] (6) [])]
  | 84 => .lk (.mk 5 [] 0 [(.mk 2 [72, 110, 50, 59] 0 []), (.mk 4 [] (6) [])])
  | 85 => .row [(.mk 1 [80, 110, 49, 59] 0 []), (.mk 5 [] 0 [(.mk 2 [72, 110, 50, 59] 0 []), (.mk 4 [] (6) [])])]
  | 86 => .lk (.mk 6 [] 0 [(.mk 1 [80, 110, 49, 59] 0 []), (.mk 5 [] 0 [(.mk 2 [72, 110, 50, 59] 0 []), (.mk 4 [] (6) [])])])
  | 87 => .rowc [(.mk 0 [] 0 []), (.mk 7 [] 0 []), (.mk 1 [80, 110, 49, 59] 0 []), (.mk 1 [110, 49, 59] 0 []), (.mk 1 [] 0 []), (.mk 1 [87, 80, 110, 49, 59, 80, 110, 50, 59] 0 []), (.mk 1 [76, 80, 110, 49, 59, 116, 48, 58] 0 []), (.mk 1 [72, 110, 49, 59] 0 []), (.mk 2 [72, 110, 49, 59] 0 []), (.mk 2 [80, 110, 49, 59] 0 []), (.mk 2 [] 0 []), aft7, (.mk 3 [] (-1) []), (.mk 3 [] (1073741823) []), (.mk 3 [] (1073741824) []), (.mk 4 [] (0) []), (.mk 4 [] (1073741824) []), (.mk 5 [] 0 []), (.mk 6 [] 0 []), (.mk 5 [] 0 [aft7]), (.mk 6 [] 0 [aft7, (.mk 4 [] (2) [])]), wide8, (.mk 6 [] 0 (List.replicate 9 aft7)), (.mk 5 [] 0 [wide8, wide8, wide8, wide8, wide8, wide8, wide8, wide8]), (.mk 5 [] 0 [wide8, wide8, wide8, wide8, wide8, wide8, (.mk 5 [] 0 (List.replicate 7 aft7))]), (.mk 5 [] 0 [wide8, wide8, wide8, wide8, wide8, wide8, wide8]), (.mk 5 [] 0 [wide8, (.mk 0 [] 0 [])]), (.mk 3 [110, 49, 59] 1 []), (.mk 1 [80, 110, 49, 59] 1 []), (.mk 2 [72, 110, 49, 59] 0 [aft7]), (.mk 5 [] 1 [aft7]), (.mk 6 [110, 49, 59] 0 [aft7]), (.mk 4 [] 0 [aft7]), (deepL 62), (deepL 63), (deepL 64), (.mk 6 [] 0 [(.mk 1 [80, 110, 49, 59] 0 []), (.mk 5 [] 0 [(.mk 2 [72, 110, 50, 59] 0 []), (.mk 4 [] (6) [])])])]
  | 88 => .rowc [(.mk 0 [] 0 []), (.mk 7 [] 0 []), (.mk 1 [80, 110, 49, 59] 0 []), (.mk 1 [110, 49, 59] 0 []), (.mk 1 [] 0 []), (.mk 1 [87, 80, 110, 49, 59, 80, 110, 50, 59] 0 []), (.mk 1 [76, 80, 110, 49, 59, 116, 48, 58] 0 []), (.mk 1 [72, 110, 49, 59] 0 []), (.mk 2 [72, 110, 49, 59] 0 []), (.mk 2 [80, 110, 49, 59] 0 []), (.mk 2 [] 0 []), aft7, (.mk 3 [] (-1) []), (.mk 3 [] (1073741823) []), (.mk 3 [] (1073741824) []), (.mk 4 [] (0) []), (.mk 4 [] (1073741824) []), (.mk 5 [] 0 []), (.mk 6 [] 0 []), (.mk 5 [] 0 [aft7]), (.mk 6 [] 0 [aft7, (.mk 4 [] (2) [])]), wide8, (.mk 6 [] 0 (List.replicate 9 aft7)), (.mk 5 [] 0 [wide8, wide8, wide8, wide8, wide8, wide8, wide8, wide8]), (.mk 5 [] 0 [wide8, wide8, wide8, wide8, wide8, wide8, (.mk 5 [] 0 (List.replicate 7 aft7))]), (.mk 5 [] 0 [wide8, wide8, wide8, wide8, wide8, wide8, wide8]), (.mk 5 [] 0 [wide8, (.mk 0 [] 0 [])]), (.mk 3 [110, 49, 59] 1 []), (.mk 1 [80, 110, 49, 59] 1 []), (.mk 2 [72, 110, 49, 59] 0 [aft7]), (.mk 5 [] 1 [aft7]), (.mk 6 [110, 49, 59] 0 [aft7]), (.mk 4 [] 0 [aft7]), (deepL 62), (deepL 63), (deepL 64), (.mk 6 [] 0 [(.mk 1 [80, 110, 49, 59] 0 []), (.mk 5 [] 0 [(.mk 2 [72, 110, 50, 59] 0 []), (.mk 4 [] (6) [])])])]
  | _ => .eq undef
def kqD (i : Nat) : Nat := if i = 88 then 5 else 29 + i
end Go.Proofs.YtdllpklecdmghaaGreatDoor
