/-
  DERIVED. GIVEN WITH THE SEED: THE CARDS: each row of YtkifchjpgdmcoaaGreatDoorRows.lean that lists a variable, with what it lists TIED to the program's text (the seventh form; the later family's looks); each row that meets fmt, with fmt's text TOLD by the authors' own Lean function (tested against real Go, not proved from fmt's source: count such statements apart). THE CARD IS WHAT COUNTS. Prove the row's statement (the work); the ties are given (YtkifchjpgdmcoaaGreatDoorTie.lean); close each card by the builder's one call (the guide's Derived/Test/ToyasCard.lean, 'card_holds'). Laid BY PROGRAM, IN A SANDBOX (cutbox-door.mjs). By AI agents, Wed Nov 11 2026. No macro, syntax, notation, axiom, sorry.
-/
import Derived.Test.YtkifchjpgdmcoaaGreatDoorRows
import GoSem.ClaimSeven
namespace Go.Proofs.YtkifchjpgdmcoaaGreatDoor
namespace Rows

/-- THE TIED CARD OF 'sluicewaylaw16.KeysSecret'. -/
def keysSecretCard : Claim7 := { stood := { row := keysSecretRow, standIns := [], harness := (true, "47cff8df6784df500db36380a0b6bf3a1bc995b9f475d0149068faf6f20e80d4"), looks := true }, kinds := [], alts := [], laidByText := true, laidKinds := [.data, .data, .data, .data], laidTests := true, laidLooks := .later }
def KeysSecretCardSaid : Prop := Claim7.holds Tryz.pinned (.plain (OpenSpec.ofChange keysSecretSpec)) keysSecretCard

/-- THE TIED CARD OF 'sluicewaylaw16.KeysKnown'. -/
def keysKnownCard : Claim7 := { stood := { row := keysKnownRow, standIns := [], harness := (true, "47cff8df6784df500db36380a0b6bf3a1bc995b9f475d0149068faf6f20e80d4"), looks := true }, kinds := [], alts := [], laidByText := true, laidKinds := [.data, .data, .data, .data], laidTests := true, laidLooks := .later }
def KeysKnownCardSaid : Prop := Claim7.holds Tryz.pinned (.plain (OpenSpec.ofChange keysKnownSpec)) keysKnownCard

/-- THE SECOND FORM's CARD OF 'sluicewaylaw16.KeysSecret'. -/
def keysSecretUptoCard : Claim7 := { stood := { row := keysSecretUptoRow, standIns := [], harness := (true, "47cff8df6784df500db36380a0b6bf3a1bc995b9f475d0149068faf6f20e80d4"), looks := true }, kinds := [], alts := [], laidByText := true, laidKinds := [.data, .data, .data, .data], laidTests := true, laidLooks := .later }
def KeysSecretUptoCardSaid : Prop := Claim7.holds Tryz.pinned (.plain (OpenSpec.upto keysSecretSpec)) keysSecretUptoCard

/-- THE SECOND FORM's CARD OF 'sluicewaylaw16.KeysKnown'. -/
def keysKnownUptoCard : Claim7 := { stood := { row := keysKnownUptoRow, standIns := [], harness := (true, "47cff8df6784df500db36380a0b6bf3a1bc995b9f475d0149068faf6f20e80d4"), looks := true }, kinds := [], alts := [], laidByText := true, laidKinds := [.data, .data, .data, .data], laidTests := true, laidLooks := .later }
def KeysKnownUptoCardSaid : Prop := Claim7.holds Tryz.pinned (.plain (OpenSpec.upto keysKnownSpec)) keysKnownUptoCard
end Rows
end Go.Proofs.YtkifchjpgdmcoaaGreatDoor
