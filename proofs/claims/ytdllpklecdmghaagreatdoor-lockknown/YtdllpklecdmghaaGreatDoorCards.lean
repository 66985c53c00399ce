/-
  DERIVED. GIVEN WITH THE SEED: THE CARDS: each row of YtdllpklecdmghaaGreatDoorRows.lean that lists a variable, with what it lists TIED to the program's text (the seventh form; the later family's looks); each row that meets fmt, with fmt's text TOLD by the authors' own Lean function (tested against real Go, not proved from fmt's source: count such statements apart). THE CARD IS WHAT COUNTS. Prove the row's statement (the work); the ties are given (YtdllpklecdmghaaGreatDoorTie.lean); close each card by the builder's one call (the guide's Derived/Test/ToyasCard.lean, 'card_holds'). Laid BY PROGRAM, IN A SANDBOX (cutbox-door.mjs). By AI agents, Wed Nov 11 2026. No macro, syntax, notation, axiom, sorry.
-/
import Derived.Test.YtdllpklecdmghaaGreatDoorRows
import GoSem.ClaimSeven
namespace Go.Proofs.YtdllpklecdmghaaGreatDoor
namespace Rows

/-- THE TIED CARD OF 'sluicewaylaw11.LockWrites'. -/
def lockWritesCard : Claim7 := { stood := { row := lockWritesRow, standIns := [], harness := (true, "d09e758e316b379dd785a9aecf35bfdf67ccfde26336ec6b501ad7bd60109348"), looks := false }, kinds := [], alts := [], laidByText := true, laidKinds := [.data, .data, .data], laidTests := true, laidLooks := .later }
def LockWritesCardSaid : Prop := Claim7.holds Tryz.pinned (.plain (OpenSpec.ofChange lockWritesSpec)) lockWritesCard

/-- THE TIED CARD OF 'sluicewaylaw11.LockReads'. -/
def lockReadsCard : Claim7 := { stood := { row := lockReadsRow, standIns := [], harness := (true, "d09e758e316b379dd785a9aecf35bfdf67ccfde26336ec6b501ad7bd60109348"), looks := false }, kinds := [], alts := [], laidByText := true, laidKinds := [.data, .data, .data], laidTests := true, laidLooks := .later }
def LockReadsCardSaid : Prop := Claim7.holds Tryz.pinned (.plain (OpenSpec.ofChange lockReadsSpec)) lockReadsCard

/-- THE TIED CARD OF 'sluicewaylaw11.LockOpens'. -/
def lockOpensCard : Claim7 := { stood := { row := lockOpensRow, standIns := [], harness := (true, "d09e758e316b379dd785a9aecf35bfdf67ccfde26336ec6b501ad7bd60109348"), looks := false }, kinds := [], alts := [], laidByText := true, laidKinds := [.data, .data, .data], laidTests := true, laidLooks := .later }
def LockOpensCardSaid : Prop := Claim7.holds Tryz.pinned (.plain (OpenSpec.ofChange lockOpensSpec)) lockOpensCard

/-- THE TIED CARD OF 'sluicewaylaw11.LockKnown'. -/
def lockKnownCard : Claim7 := { stood := { row := lockKnownRow, standIns := [], harness := (true, "d09e758e316b379dd785a9aecf35bfdf67ccfde26336ec6b501ad7bd60109348"), looks := false }, kinds := [], alts := [], laidByText := true, laidKinds := [.data, .data, .data], laidTests := true, laidLooks := .later }
def LockKnownCardSaid : Prop := Claim7.holds Tryz.pinned (.plain (OpenSpec.ofChange lockKnownSpec)) lockKnownCard

/-- THE SECOND FORM's CARD OF 'sluicewaylaw11.LockWrites'. -/
def lockWritesUptoCard : Claim7 := { stood := { row := lockWritesUptoRow, standIns := [], harness := (true, "d09e758e316b379dd785a9aecf35bfdf67ccfde26336ec6b501ad7bd60109348"), looks := false }, kinds := [], alts := [], laidByText := true, laidKinds := [.data, .data, .data], laidTests := true, laidLooks := .later }
def LockWritesUptoCardSaid : Prop := Claim7.holds Tryz.pinned (.plain (OpenSpec.upto lockWritesSpec)) lockWritesUptoCard

/-- THE SECOND FORM's CARD OF 'sluicewaylaw11.LockReads'. -/
def lockReadsUptoCard : Claim7 := { stood := { row := lockReadsUptoRow, standIns := [], harness := (true, "d09e758e316b379dd785a9aecf35bfdf67ccfde26336ec6b501ad7bd60109348"), looks := false }, kinds := [], alts := [], laidByText := true, laidKinds := [.data, .data, .data], laidTests := true, laidLooks := .later }
def LockReadsUptoCardSaid : Prop := Claim7.holds Tryz.pinned (.plain (OpenSpec.upto lockReadsSpec)) lockReadsUptoCard

/-- THE SECOND FORM's CARD OF 'sluicewaylaw11.LockOpens'. -/
def lockOpensUptoCard : Claim7 := { stood := { row := lockOpensUptoRow, standIns := [], harness := (true, "d09e758e316b379dd785a9aecf35bfdf67ccfde26336ec6b501ad7bd60109348"), looks := false }, kinds := [], alts := [], laidByText := true, laidKinds := [.data, .data, .data], laidTests := true, laidLooks := .later }
def LockOpensUptoCardSaid : Prop := Claim7.holds Tryz.pinned (.plain (OpenSpec.upto lockOpensSpec)) lockOpensUptoCard

/-- THE SECOND FORM's CARD OF 'sluicewaylaw11.LockKnown'. -/
def lockKnownUptoCard : Claim7 := { stood := { row := lockKnownUptoRow, standIns := [], harness := (true, "d09e758e316b379dd785a9aecf35bfdf67ccfde26336ec6b501ad7bd60109348"), looks := false }, kinds := [], alts := [], laidByText := true, laidKinds := [.data, .data, .data], laidTests := true, laidLooks := .later }
def LockKnownUptoCardSaid : Prop := Claim7.holds Tryz.pinned (.plain (OpenSpec.upto lockKnownSpec)) lockKnownUptoCard
end Rows
end Go.Proofs.YtdllpklecdmghaaGreatDoor
