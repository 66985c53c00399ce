/-
  DERIVED. GIVEN WITH THE SEED: THE CARDS: each row of YtfnnhekjeobicaaGreatDoorRows.lean that lists a variable, with what it lists TIED to the program's text (the seventh form; the later family's looks); each row that meets fmt, with fmt's text TOLD by the authors' own Lean function (tested against real Go, not proved from fmt's source: count such statements apart). THE CARD IS WHAT COUNTS. Prove the row's statement (the work); the ties are given (YtfnnhekjeobicaaGreatDoorTie.lean); close each card by the builder's one call (the guide's Derived/Test/ToyasCard.lean, 'card_holds'). Laid BY PROGRAM, IN A SANDBOX (cutbox-door.mjs). By AI agents, Wed Nov 11 2026. No macro, syntax, notation, axiom, sorry.
-/
import Derived.Test.YtfnnhekjeobicaaGreatDoorRows
import GoSem.ClaimSeven
namespace Go.Proofs.YtfnnhekjeobicaaGreatDoor
namespace Rows

/-- THE TIED CARD OF 'sluicewaylaw03.DeduceMore'. -/
def deduceMoreCard : Claim7 := { stood := { row := deduceMoreRow, standIns := [], harness := (true, "138969afa97364fe002f78df43e00c8b8738f3ab863d735d2cc7a7d31d5178a6"), looks := true }, kinds := [], alts := [], laidByText := true, laidKinds := [.data, .data, .data], laidTests := true, laidLooks := .later }
def DeduceMoreCardSaid : Prop := Claim7.holds Tryz.pinned (.plain (OpenSpec.ofChange deduceMoreSpec)) deduceMoreCard

/-- THE TIED CARD OF 'sluicewaylaw03.DeduceFresh'. -/
def deduceFreshCard : Claim7 := { stood := { row := deduceFreshRow, standIns := [], harness := (true, "138969afa97364fe002f78df43e00c8b8738f3ab863d735d2cc7a7d31d5178a6"), looks := true }, kinds := [], alts := [], laidByText := true, laidKinds := [.data, .data, .data], laidTests := true, laidLooks := .later }
def DeduceFreshCardSaid : Prop := Claim7.holds Tryz.pinned (.plain (OpenSpec.ofChange deduceFreshSpec)) deduceFreshCard

/-- THE TIED CARD OF 'sluicewaylaw03.DeduceHides'. -/
def deduceHidesCard : Claim7 := { stood := { row := deduceHidesRow, standIns := [], harness := (true, "138969afa97364fe002f78df43e00c8b8738f3ab863d735d2cc7a7d31d5178a6"), looks := true }, kinds := [], alts := [], laidByText := true, laidKinds := [.data, .data, .data], laidTests := true, laidLooks := .later }
def DeduceHidesCardSaid : Prop := Claim7.holds Tryz.pinned (.plain (OpenSpec.ofChange deduceHidesSpec)) deduceHidesCard

/-- THE TIED CARD OF 'sluicewaylaw03.DeduceKnown'. -/
def deduceKnownCard : Claim7 := { stood := { row := deduceKnownRow, standIns := [], harness := (true, "138969afa97364fe002f78df43e00c8b8738f3ab863d735d2cc7a7d31d5178a6"), looks := true }, kinds := [], alts := [], laidByText := true, laidKinds := [.data, .data, .data], laidTests := true, laidLooks := .later }
def DeduceKnownCardSaid : Prop := Claim7.holds Tryz.pinned (.plain (OpenSpec.ofChange deduceKnownSpec)) deduceKnownCard

/-- THE SECOND FORM's CARD OF 'sluicewaylaw03.DeduceMore'. -/
def deduceMoreUptoCard : Claim7 := { stood := { row := deduceMoreUptoRow, standIns := [], harness := (true, "138969afa97364fe002f78df43e00c8b8738f3ab863d735d2cc7a7d31d5178a6"), looks := true }, kinds := [], alts := [], laidByText := true, laidKinds := [.data, .data, .data], laidTests := true, laidLooks := .later }
def DeduceMoreUptoCardSaid : Prop := Claim7.holds Tryz.pinned (.plain (OpenSpec.upto deduceMoreSpec)) deduceMoreUptoCard

/-- THE SECOND FORM's CARD OF 'sluicewaylaw03.DeduceFresh'. -/
def deduceFreshUptoCard : Claim7 := { stood := { row := deduceFreshUptoRow, standIns := [], harness := (true, "138969afa97364fe002f78df43e00c8b8738f3ab863d735d2cc7a7d31d5178a6"), looks := true }, kinds := [], alts := [], laidByText := true, laidKinds := [.data, .data, .data], laidTests := true, laidLooks := .later }
def DeduceFreshUptoCardSaid : Prop := Claim7.holds Tryz.pinned (.plain (OpenSpec.upto deduceFreshSpec)) deduceFreshUptoCard

/-- THE SECOND FORM's CARD OF 'sluicewaylaw03.DeduceHides'. -/
def deduceHidesUptoCard : Claim7 := { stood := { row := deduceHidesUptoRow, standIns := [], harness := (true, "138969afa97364fe002f78df43e00c8b8738f3ab863d735d2cc7a7d31d5178a6"), looks := true }, kinds := [], alts := [], laidByText := true, laidKinds := [.data, .data, .data], laidTests := true, laidLooks := .later }
def DeduceHidesUptoCardSaid : Prop := Claim7.holds Tryz.pinned (.plain (OpenSpec.upto deduceHidesSpec)) deduceHidesUptoCard

/-- THE SECOND FORM's CARD OF 'sluicewaylaw03.DeduceKnown'. -/
def deduceKnownUptoCard : Claim7 := { stood := { row := deduceKnownUptoRow, standIns := [], harness := (true, "138969afa97364fe002f78df43e00c8b8738f3ab863d735d2cc7a7d31d5178a6"), looks := true }, kinds := [], alts := [], laidByText := true, laidKinds := [.data, .data, .data], laidTests := true, laidLooks := .later }
def DeduceKnownUptoCardSaid : Prop := Claim7.holds Tryz.pinned (.plain (OpenSpec.upto deduceKnownSpec)) deduceKnownUptoCard
end Rows
end Go.Proofs.YtfnnhekjeobicaaGreatDoor
