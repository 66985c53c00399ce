/-
  DERIVED. GIVEN WITH THE SEED: THE CARDS: each row of YtmdiggbbgcjcnaaDoorRows.lean that lists a variable, with what it lists TIED to the program's text (the seventh form; the later family's looks); each row that meets fmt, with fmt's text TOLD by the authors' own Lean function (tested against real Go, not proved from fmt's source: count such statements apart). THE CARD IS WHAT COUNTS. Prove the row's statement (the work); the ties are given (YtmdiggbbgcjcnaaDoorTie.lean); close each card by the builder's one call (the guide's Derived/Test/ToyasCard.lean, 'card_holds'). Laid BY PROGRAM, IN A SANDBOX (cutbox-door.mjs). By AI agents, Wed Nov 11 2026. No macro, syntax, notation, axiom, sorry.
-/
import Derived.Test.YtmdiggbbgcjcnaaDoorRows
import GoSem.ClaimSeven
namespace Go.Proofs.YtmdiggbbgcjcnaaDoor
namespace Rows

/-- THE TIED CARD OF 'sluicewaylaw15.SeedSecrets'. -/
def seedSecretsCard : Claim7 := { stood := { row := seedSecretsRow, standIns := [], harness := (true, "cf4065fa60ba0caa2b77cd8db15268fab389e6ea319142f5fd9f233f22dee236"), looks := false }, kinds := [], alts := [], laidByText := true, laidKinds := [.data, .data, .data], laidTests := true, laidLooks := .later }
def SeedSecretsCardSaid : Prop := Claim7.holds Tryd.pinned (.plain (OpenSpec.ofChange seedSecretsSpec)) seedSecretsCard

/-- THE TIED CARD OF 'sluicewaylaw15.SeedPlays'. -/
def seedPlaysCard : Claim7 := { stood := { row := seedPlaysRow, standIns := [], harness := (true, "cf4065fa60ba0caa2b77cd8db15268fab389e6ea319142f5fd9f233f22dee236"), looks := false }, kinds := [], alts := [], laidByText := true, laidKinds := [.data, .data, .data], laidTests := true, laidLooks := .later }
def SeedPlaysCardSaid : Prop := Claim7.holds Tryd.pinned (.plain (OpenSpec.ofChange seedPlaysSpec)) seedPlaysCard

/-- THE TIED CARD OF 'sluicewaylaw15.SeedNone'. -/
def seedNoneCard : Claim7 := { stood := { row := seedNoneRow, standIns := [], harness := (true, "cf4065fa60ba0caa2b77cd8db15268fab389e6ea319142f5fd9f233f22dee236"), looks := false }, kinds := [], alts := [], laidByText := true, laidKinds := [.data, .data, .data], laidTests := true, laidLooks := .later }
def SeedNoneCardSaid : Prop := Claim7.holds Tryd.pinned (.plain (OpenSpec.ofChange seedNoneSpec)) seedNoneCard

/-- THE TIED CARD OF 'sluicewaylaw15.SeedTells'. -/
def seedTellsCard : Claim7 := { stood := { row := seedTellsRow, standIns := [], harness := (true, "cf4065fa60ba0caa2b77cd8db15268fab389e6ea319142f5fd9f233f22dee236"), looks := false }, kinds := [], alts := [], laidByText := true, laidKinds := [.data, .data, .data], laidTests := true, laidLooks := .later }
def SeedTellsCardSaid : Prop := Claim7.holds Tryd.pinned (.plain (OpenSpec.ofChange seedTellsSpec)) seedTellsCard

/-- THE TIED CARD OF 'sluicewaylaw15.SeedKnown'. -/
def seedKnownCard : Claim7 := { stood := { row := seedKnownRow, standIns := [], harness := (true, "cf4065fa60ba0caa2b77cd8db15268fab389e6ea319142f5fd9f233f22dee236"), looks := false }, kinds := [], alts := [], laidByText := true, laidKinds := [.data, .data, .data], laidTests := true, laidLooks := .later }
def SeedKnownCardSaid : Prop := Claim7.holds Tryd.pinned (.plain (OpenSpec.ofChange seedKnownSpec)) seedKnownCard

/-- THE SECOND FORM's CARD OF 'sluicewaylaw15.SeedSecrets'. -/
def seedSecretsUptoCard : Claim7 := { stood := { row := seedSecretsUptoRow, standIns := [], harness := (true, "cf4065fa60ba0caa2b77cd8db15268fab389e6ea319142f5fd9f233f22dee236"), looks := false }, kinds := [], alts := [], laidByText := true, laidKinds := [.data, .data, .data], laidTests := true, laidLooks := .later }
def SeedSecretsUptoCardSaid : Prop := Claim7.holds Tryd.pinned (.plain (OpenSpec.upto seedSecretsSpec)) seedSecretsUptoCard

/-- THE SECOND FORM's CARD OF 'sluicewaylaw15.SeedPlays'. -/
def seedPlaysUptoCard : Claim7 := { stood := { row := seedPlaysUptoRow, standIns := [], harness := (true, "cf4065fa60ba0caa2b77cd8db15268fab389e6ea319142f5fd9f233f22dee236"), looks := false }, kinds := [], alts := [], laidByText := true, laidKinds := [.data, .data, .data], laidTests := true, laidLooks := .later }
def SeedPlaysUptoCardSaid : Prop := Claim7.holds Tryd.pinned (.plain (OpenSpec.upto seedPlaysSpec)) seedPlaysUptoCard

/-- THE SECOND FORM's CARD OF 'sluicewaylaw15.SeedNone'. -/
def seedNoneUptoCard : Claim7 := { stood := { row := seedNoneUptoRow, standIns := [], harness := (true, "cf4065fa60ba0caa2b77cd8db15268fab389e6ea319142f5fd9f233f22dee236"), looks := false }, kinds := [], alts := [], laidByText := true, laidKinds := [.data, .data, .data], laidTests := true, laidLooks := .later }
def SeedNoneUptoCardSaid : Prop := Claim7.holds Tryd.pinned (.plain (OpenSpec.upto seedNoneSpec)) seedNoneUptoCard

/-- THE SECOND FORM's CARD OF 'sluicewaylaw15.SeedTells'. -/
def seedTellsUptoCard : Claim7 := { stood := { row := seedTellsUptoRow, standIns := [], harness := (true, "cf4065fa60ba0caa2b77cd8db15268fab389e6ea319142f5fd9f233f22dee236"), looks := false }, kinds := [], alts := [], laidByText := true, laidKinds := [.data, .data, .data], laidTests := true, laidLooks := .later }
def SeedTellsUptoCardSaid : Prop := Claim7.holds Tryd.pinned (.plain (OpenSpec.upto seedTellsSpec)) seedTellsUptoCard

/-- THE SECOND FORM's CARD OF 'sluicewaylaw15.SeedKnown'. -/
def seedKnownUptoCard : Claim7 := { stood := { row := seedKnownUptoRow, standIns := [], harness := (true, "cf4065fa60ba0caa2b77cd8db15268fab389e6ea319142f5fd9f233f22dee236"), looks := false }, kinds := [], alts := [], laidByText := true, laidKinds := [.data, .data, .data], laidTests := true, laidLooks := .later }
def SeedKnownUptoCardSaid : Prop := Claim7.holds Tryd.pinned (.plain (OpenSpec.upto seedKnownSpec)) seedKnownUptoCard
end Rows
end Go.Proofs.YtmdiggbbgcjcnaaDoor
