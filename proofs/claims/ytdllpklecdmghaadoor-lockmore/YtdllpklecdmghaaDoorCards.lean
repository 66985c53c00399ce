/-
  DERIVED. GIVEN WITH THE SEED: THE CARDS: each row of YtdllpklecdmghaaDoorRows.lean that lists a variable, with what it lists TIED to the program's text (the seventh form; the later family's looks); each row that meets fmt, with fmt's text TOLD by the authors' own Lean function (tested against real Go, not proved from fmt's source: count such statements apart). THE CARD IS WHAT COUNTS. Prove the row's statement (the work); the ties are given (YtdllpklecdmghaaDoorTie.lean); close each card by the builder's one call (the guide's Derived/Test/ToyasCard.lean, 'card_holds'). Laid BY PROGRAM, IN A SANDBOX (cutbox-door.mjs). By AI agents, Wed Nov 11 2026. No macro, syntax, notation, axiom, sorry.
-/
import Derived.Test.YtdllpklecdmghaaDoorRows
import GoSem.ClaimSeven
namespace Go.Proofs.YtdllpklecdmghaaDoor
namespace Rows

/-- THE TIED CARD OF 'sluicewaylaw11.LockMakes'. -/
def lockMakesCard : Claim7 := { stood := { row := lockMakesRow, standIns := [], harness := (true, "20dcf6f0ae4e63edc302308db6b6f28fec51eeca02fb5f4efdca3aa8d7eb766e"), looks := false }, kinds := [], alts := [], laidByText := true, laidKinds := [.data, .data, .data], laidTests := true, laidLooks := .later }
def LockMakesCardSaid : Prop := Claim7.holds Tryd.pinned (.plain (OpenSpec.ofChange lockMakesSpec)) lockMakesCard

/-- THE TIED CARD OF 'sluicewaylaw11.LockBack'. -/
def lockBackCard : Claim7 := { stood := { row := lockBackRow, standIns := [], harness := (true, "20dcf6f0ae4e63edc302308db6b6f28fec51eeca02fb5f4efdca3aa8d7eb766e"), looks := false }, kinds := [], alts := [], laidByText := true, laidKinds := [.data, .data, .data], laidTests := true, laidLooks := .later }
def LockBackCardSaid : Prop := Claim7.holds Tryd.pinned (.plain (OpenSpec.ofChange lockBackSpec)) lockBackCard

/-- THE TIED CARD OF 'sluicewaylaw11.LockMore'. -/
def lockMoreCard : Claim7 := { stood := { row := lockMoreRow, standIns := [], harness := (true, "20dcf6f0ae4e63edc302308db6b6f28fec51eeca02fb5f4efdca3aa8d7eb766e"), looks := false }, kinds := [], alts := [], laidByText := true, laidKinds := [.data, .data, .data], laidTests := true, laidLooks := .later }
def LockMoreCardSaid : Prop := Claim7.holds Tryd.pinned (.plain (OpenSpec.ofChange lockMoreSpec)) lockMoreCard

/-- THE TIED CARD OF 'sluicewaylaw11.LockNeeds'. -/
def lockNeedsCard : Claim7 := { stood := { row := lockNeedsRow, standIns := [], harness := (true, "20dcf6f0ae4e63edc302308db6b6f28fec51eeca02fb5f4efdca3aa8d7eb766e"), looks := false }, kinds := [], alts := [], laidByText := true, laidKinds := [.data, .data, .data], laidTests := true, laidLooks := .later }
def LockNeedsCardSaid : Prop := Claim7.holds Tryd.pinned (.plain (OpenSpec.ofChange lockNeedsSpec)) lockNeedsCard

/-- THE SECOND FORM's CARD OF 'sluicewaylaw11.LockMakes'. -/
def lockMakesUptoCard : Claim7 := { stood := { row := lockMakesUptoRow, standIns := [], harness := (true, "20dcf6f0ae4e63edc302308db6b6f28fec51eeca02fb5f4efdca3aa8d7eb766e"), looks := false }, kinds := [], alts := [], laidByText := true, laidKinds := [.data, .data, .data], laidTests := true, laidLooks := .later }
def LockMakesUptoCardSaid : Prop := Claim7.holds Tryd.pinned (.plain (OpenSpec.upto lockMakesSpec)) lockMakesUptoCard

/-- THE SECOND FORM's CARD OF 'sluicewaylaw11.LockBack'. -/
def lockBackUptoCard : Claim7 := { stood := { row := lockBackUptoRow, standIns := [], harness := (true, "20dcf6f0ae4e63edc302308db6b6f28fec51eeca02fb5f4efdca3aa8d7eb766e"), looks := false }, kinds := [], alts := [], laidByText := true, laidKinds := [.data, .data, .data], laidTests := true, laidLooks := .later }
def LockBackUptoCardSaid : Prop := Claim7.holds Tryd.pinned (.plain (OpenSpec.upto lockBackSpec)) lockBackUptoCard

/-- THE SECOND FORM's CARD OF 'sluicewaylaw11.LockMore'. -/
def lockMoreUptoCard : Claim7 := { stood := { row := lockMoreUptoRow, standIns := [], harness := (true, "20dcf6f0ae4e63edc302308db6b6f28fec51eeca02fb5f4efdca3aa8d7eb766e"), looks := false }, kinds := [], alts := [], laidByText := true, laidKinds := [.data, .data, .data], laidTests := true, laidLooks := .later }
def LockMoreUptoCardSaid : Prop := Claim7.holds Tryd.pinned (.plain (OpenSpec.upto lockMoreSpec)) lockMoreUptoCard

/-- THE SECOND FORM's CARD OF 'sluicewaylaw11.LockNeeds'. -/
def lockNeedsUptoCard : Claim7 := { stood := { row := lockNeedsUptoRow, standIns := [], harness := (true, "20dcf6f0ae4e63edc302308db6b6f28fec51eeca02fb5f4efdca3aa8d7eb766e"), looks := false }, kinds := [], alts := [], laidByText := true, laidKinds := [.data, .data, .data], laidTests := true, laidLooks := .later }
def LockNeedsUptoCardSaid : Prop := Claim7.holds Tryd.pinned (.plain (OpenSpec.upto lockNeedsSpec)) lockNeedsUptoCard
end Rows
end Go.Proofs.YtdllpklecdmghaaDoor
