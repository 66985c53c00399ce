/-
  DERIVED. GIVEN WITH THE SEED: THE CARDS: each row of YtkifchjpgdmcoaaDoorRows.lean that lists a variable, with what it lists TIED to the program's text (the seventh form; the later family's looks); each row that meets fmt, with fmt's text TOLD by the authors' own Lean function (tested against real Go, not proved from fmt's source: count such statements apart). THE CARD IS WHAT COUNTS. Prove the row's statement (the work); the ties are given (YtkifchjpgdmcoaaDoorTie.lean); close each card by the builder's one call (the guide's Derived/Test/ToyasCard.lean, 'card_holds'). Laid BY PROGRAM, IN A SANDBOX (cutbox-door.mjs). By AI agents, Wed Nov 11 2026. No macro, syntax, notation, axiom, sorry.
-/
import Derived.Test.YtkifchjpgdmcoaaDoorRows
import GoSem.ClaimSeven
namespace Go.Proofs.YtkifchjpgdmcoaaDoor
namespace Rows

/-- THE TIED CARD OF 'sluicewaylaw16.KeysMakes'. -/
def keysMakesCard : Claim7 := { stood := { row := keysMakesRow, standIns := [], harness := (true, "97fc5aeb1a754cb2d5779a19020655e20c6caa07b3dc5b67b723817fed490685"), looks := false }, kinds := [], alts := [], laidByText := true, laidKinds := [.data, .data, .data, .data], laidTests := true, laidLooks := .later }
def KeysMakesCardSaid : Prop := Claim7.holds Tryd.pinned (.plain (OpenSpec.ofChange keysMakesSpec)) keysMakesCard

/-- THE TIED CARD OF 'sluicewaylaw16.KeysPoints'. -/
def keysPointsCard : Claim7 := { stood := { row := keysPointsRow, standIns := [], harness := (true, "97fc5aeb1a754cb2d5779a19020655e20c6caa07b3dc5b67b723817fed490685"), looks := false }, kinds := [], alts := [], laidByText := true, laidKinds := [.data, .data, .data, .data], laidTests := true, laidLooks := .later }
def KeysPointsCardSaid : Prop := Claim7.holds Tryd.pinned (.plain (OpenSpec.ofChange keysPointsSpec)) keysPointsCard

/-- THE TIED CARD OF 'sluicewaylaw16.KeysSets'. -/
def keysSetsCard : Claim7 := { stood := { row := keysSetsRow, standIns := [], harness := (true, "97fc5aeb1a754cb2d5779a19020655e20c6caa07b3dc5b67b723817fed490685"), looks := false }, kinds := [], alts := [], laidByText := true, laidKinds := [.data, .data, .data, .data], laidTests := true, laidLooks := .later }
def KeysSetsCardSaid : Prop := Claim7.holds Tryd.pinned (.plain (OpenSpec.ofChange keysSetsSpec)) keysSetsCard

/-- THE TIED CARD OF 'sluicewaylaw16.KeysFit'. -/
def keysFitCard : Claim7 := { stood := { row := keysFitRow, standIns := [], harness := (true, "97fc5aeb1a754cb2d5779a19020655e20c6caa07b3dc5b67b723817fed490685"), looks := false }, kinds := [], alts := [], laidByText := true, laidKinds := [.data, .data, .data, .data], laidTests := true, laidLooks := .later }
def KeysFitCardSaid : Prop := Claim7.holds Tryd.pinned (.plain (OpenSpec.ofChange keysFitSpec)) keysFitCard

/-- THE SECOND FORM's CARD OF 'sluicewaylaw16.KeysMakes'. -/
def keysMakesUptoCard : Claim7 := { stood := { row := keysMakesUptoRow, standIns := [], harness := (true, "97fc5aeb1a754cb2d5779a19020655e20c6caa07b3dc5b67b723817fed490685"), looks := false }, kinds := [], alts := [], laidByText := true, laidKinds := [.data, .data, .data, .data], laidTests := true, laidLooks := .later }
def KeysMakesUptoCardSaid : Prop := Claim7.holds Tryd.pinned (.plain (OpenSpec.upto keysMakesSpec)) keysMakesUptoCard

/-- THE SECOND FORM's CARD OF 'sluicewaylaw16.KeysPoints'. -/
def keysPointsUptoCard : Claim7 := { stood := { row := keysPointsUptoRow, standIns := [], harness := (true, "97fc5aeb1a754cb2d5779a19020655e20c6caa07b3dc5b67b723817fed490685"), looks := false }, kinds := [], alts := [], laidByText := true, laidKinds := [.data, .data, .data, .data], laidTests := true, laidLooks := .later }
def KeysPointsUptoCardSaid : Prop := Claim7.holds Tryd.pinned (.plain (OpenSpec.upto keysPointsSpec)) keysPointsUptoCard

/-- THE SECOND FORM's CARD OF 'sluicewaylaw16.KeysSets'. -/
def keysSetsUptoCard : Claim7 := { stood := { row := keysSetsUptoRow, standIns := [], harness := (true, "97fc5aeb1a754cb2d5779a19020655e20c6caa07b3dc5b67b723817fed490685"), looks := false }, kinds := [], alts := [], laidByText := true, laidKinds := [.data, .data, .data, .data], laidTests := true, laidLooks := .later }
def KeysSetsUptoCardSaid : Prop := Claim7.holds Tryd.pinned (.plain (OpenSpec.upto keysSetsSpec)) keysSetsUptoCard

/-- THE SECOND FORM's CARD OF 'sluicewaylaw16.KeysFit'. -/
def keysFitUptoCard : Claim7 := { stood := { row := keysFitUptoRow, standIns := [], harness := (true, "97fc5aeb1a754cb2d5779a19020655e20c6caa07b3dc5b67b723817fed490685"), looks := false }, kinds := [], alts := [], laidByText := true, laidKinds := [.data, .data, .data, .data], laidTests := true, laidLooks := .later }
def KeysFitUptoCardSaid : Prop := Claim7.holds Tryd.pinned (.plain (OpenSpec.upto keysFitSpec)) keysFitUptoCard
end Rows
end Go.Proofs.YtkifchjpgdmcoaaDoor
