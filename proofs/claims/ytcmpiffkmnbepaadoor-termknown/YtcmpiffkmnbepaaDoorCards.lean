/-
  DERIVED. GIVEN WITH THE SEED: THE CARDS: each row of YtcmpiffkmnbepaaDoorRows.lean that lists a variable, with what it lists TIED to the program's text (the seventh form; the later family's looks); each row that meets fmt, with fmt's text TOLD by the authors' own Lean function (tested against real Go, not proved from fmt's source: count such statements apart). THE CARD IS WHAT COUNTS. Prove the row's statement (the work); the ties are given (YtcmpiffkmnbepaaDoorTie.lean); close each card by the builder's one call (the guide's Derived/Test/ToyasCard.lean, 'card_holds'). Laid BY PROGRAM, IN A SANDBOX (cutbox-door.mjs). By AI agents, Wed Nov 11 2026. No macro, syntax, notation, axiom, sorry.
-/
import Derived.Test.YtcmpiffkmnbepaaDoorRows
import GoSem.ClaimSeven
namespace Go.Proofs.YtcmpiffkmnbepaaDoor
namespace Rows

/-- THE TIED CARD OF 'sluicewaylaw01.TermOpens'. -/
def termOpensCard : Claim7 := { stood := { row := termOpensRow, standIns := [], harness := (true, "7fbce7272dcc703abbd24aa777e25da4d4a1de77e62a0175bed46786e73702ea"), looks := false }, kinds := [], alts := [], laidByText := true, laidKinds := [.data, .data, .data], laidTests := true, laidLooks := .later }
def TermOpensCardSaid : Prop := Claim7.holds Tryd.pinned (.plain (OpenSpec.ofChange termOpensSpec)) termOpensCard

/-- THE TIED CARD OF 'sluicewaylaw01.TermMakes'. -/
def termMakesCard : Claim7 := { stood := { row := termMakesRow, standIns := [], harness := (true, "7fbce7272dcc703abbd24aa777e25da4d4a1de77e62a0175bed46786e73702ea"), looks := false }, kinds := [], alts := [], laidByText := true, laidKinds := [.data, .data, .data], laidTests := true, laidLooks := .later }
def TermMakesCardSaid : Prop := Claim7.holds Tryd.pinned (.plain (OpenSpec.ofChange termMakesSpec)) termMakesCard

/-- THE TIED CARD OF 'sluicewaylaw01.TermBuilds'. -/
def termBuildsCard : Claim7 := { stood := { row := termBuildsRow, standIns := [], harness := (true, "7fbce7272dcc703abbd24aa777e25da4d4a1de77e62a0175bed46786e73702ea"), looks := false }, kinds := [], alts := [], laidByText := true, laidKinds := [.data, .data, .data], laidTests := true, laidLooks := .later }
def TermBuildsCardSaid : Prop := Claim7.holds Tryd.pinned (.plain (OpenSpec.ofChange termBuildsSpec)) termBuildsCard

/-- THE TIED CARD OF 'sluicewaylaw01.TermAsks'. -/
def termAsksCard : Claim7 := { stood := { row := termAsksRow, standIns := [], harness := (true, "7fbce7272dcc703abbd24aa777e25da4d4a1de77e62a0175bed46786e73702ea"), looks := false }, kinds := [], alts := [], laidByText := true, laidKinds := [.data, .data, .data], laidTests := true, laidLooks := .later }
def TermAsksCardSaid : Prop := Claim7.holds Tryd.pinned (.plain (OpenSpec.ofChange termAsksSpec)) termAsksCard

/-- THE TIED CARD OF 'sluicewaylaw01.TermBack'. -/
def termBackCard : Claim7 := { stood := { row := termBackRow, standIns := [], harness := (true, "7fbce7272dcc703abbd24aa777e25da4d4a1de77e62a0175bed46786e73702ea"), looks := false }, kinds := [], alts := [], laidByText := true, laidKinds := [.data, .data, .data], laidTests := true, laidLooks := .later }
def TermBackCardSaid : Prop := Claim7.holds Tryd.pinned (.plain (OpenSpec.ofChange termBackSpec)) termBackCard

/-- THE TIED CARD OF 'sluicewaylaw01.TermAgrees'. -/
def termAgreesCard : Claim7 := { stood := { row := termAgreesRow, standIns := [], harness := (true, "7fbce7272dcc703abbd24aa777e25da4d4a1de77e62a0175bed46786e73702ea"), looks := false }, kinds := [], alts := [], laidByText := true, laidKinds := [.data, .data, .data], laidTests := true, laidLooks := .later }
def TermAgreesCardSaid : Prop := Claim7.holds Tryd.pinned (.plain (OpenSpec.ofChange termAgreesSpec)) termAgreesCard

/-- THE TIED CARD OF 'sluicewaylaw01.TermKeys'. -/
def termKeysCard : Claim7 := { stood := { row := termKeysRow, standIns := [], harness := (true, "7fbce7272dcc703abbd24aa777e25da4d4a1de77e62a0175bed46786e73702ea"), looks := false }, kinds := [], alts := [], laidByText := true, laidKinds := [.data, .data, .data], laidTests := true, laidLooks := .later }
def TermKeysCardSaid : Prop := Claim7.holds Tryd.pinned (.plain (OpenSpec.ofChange termKeysSpec)) termKeysCard

/-- THE TIED CARD OF 'sluicewaylaw01.TermSigns'. -/
def termSignsCard : Claim7 := { stood := { row := termSignsRow, standIns := [], harness := (true, "7fbce7272dcc703abbd24aa777e25da4d4a1de77e62a0175bed46786e73702ea"), looks := false }, kinds := [], alts := [], laidByText := true, laidKinds := [.data, .data, .data], laidTests := true, laidLooks := .later }
def TermSignsCardSaid : Prop := Claim7.holds Tryd.pinned (.plain (OpenSpec.ofChange termSignsSpec)) termSignsCard

/-- THE TIED CARD OF 'sluicewaylaw01.TermKnown'. -/
def termKnownCard : Claim7 := { stood := { row := termKnownRow, standIns := [], harness := (true, "7fbce7272dcc703abbd24aa777e25da4d4a1de77e62a0175bed46786e73702ea"), looks := false }, kinds := [], alts := [], laidByText := true, laidKinds := [.data, .data, .data], laidTests := true, laidLooks := .later }
def TermKnownCardSaid : Prop := Claim7.holds Tryd.pinned (.plain (OpenSpec.ofChange termKnownSpec)) termKnownCard

/-- THE SECOND FORM's CARD OF 'sluicewaylaw01.TermOpens'. -/
def termOpensUptoCard : Claim7 := { stood := { row := termOpensUptoRow, standIns := [], harness := (true, "7fbce7272dcc703abbd24aa777e25da4d4a1de77e62a0175bed46786e73702ea"), looks := false }, kinds := [], alts := [], laidByText := true, laidKinds := [.data, .data, .data], laidTests := true, laidLooks := .later }
def TermOpensUptoCardSaid : Prop := Claim7.holds Tryd.pinned (.plain (OpenSpec.upto termOpensSpec)) termOpensUptoCard

/-- THE SECOND FORM's CARD OF 'sluicewaylaw01.TermMakes'. -/
def termMakesUptoCard : Claim7 := { stood := { row := termMakesUptoRow, standIns := [], harness := (true, "7fbce7272dcc703abbd24aa777e25da4d4a1de77e62a0175bed46786e73702ea"), looks := false }, kinds := [], alts := [], laidByText := true, laidKinds := [.data, .data, .data], laidTests := true, laidLooks := .later }
def TermMakesUptoCardSaid : Prop := Claim7.holds Tryd.pinned (.plain (OpenSpec.upto termMakesSpec)) termMakesUptoCard

/-- THE SECOND FORM's CARD OF 'sluicewaylaw01.TermBuilds'. -/
def termBuildsUptoCard : Claim7 := { stood := { row := termBuildsUptoRow, standIns := [], harness := (true, "7fbce7272dcc703abbd24aa777e25da4d4a1de77e62a0175bed46786e73702ea"), looks := false }, kinds := [], alts := [], laidByText := true, laidKinds := [.data, .data, .data], laidTests := true, laidLooks := .later }
def TermBuildsUptoCardSaid : Prop := Claim7.holds Tryd.pinned (.plain (OpenSpec.upto termBuildsSpec)) termBuildsUptoCard

/-- THE SECOND FORM's CARD OF 'sluicewaylaw01.TermAsks'. -/
def termAsksUptoCard : Claim7 := { stood := { row := termAsksUptoRow, standIns := [], harness := (true, "7fbce7272dcc703abbd24aa777e25da4d4a1de77e62a0175bed46786e73702ea"), looks := false }, kinds := [], alts := [], laidByText := true, laidKinds := [.data, .data, .data], laidTests := true, laidLooks := .later }
def TermAsksUptoCardSaid : Prop := Claim7.holds Tryd.pinned (.plain (OpenSpec.upto termAsksSpec)) termAsksUptoCard

/-- THE SECOND FORM's CARD OF 'sluicewaylaw01.TermBack'. -/
def termBackUptoCard : Claim7 := { stood := { row := termBackUptoRow, standIns := [], harness := (true, "7fbce7272dcc703abbd24aa777e25da4d4a1de77e62a0175bed46786e73702ea"), looks := false }, kinds := [], alts := [], laidByText := true, laidKinds := [.data, .data, .data], laidTests := true, laidLooks := .later }
def TermBackUptoCardSaid : Prop := Claim7.holds Tryd.pinned (.plain (OpenSpec.upto termBackSpec)) termBackUptoCard

/-- THE SECOND FORM's CARD OF 'sluicewaylaw01.TermAgrees'. -/
def termAgreesUptoCard : Claim7 := { stood := { row := termAgreesUptoRow, standIns := [], harness := (true, "7fbce7272dcc703abbd24aa777e25da4d4a1de77e62a0175bed46786e73702ea"), looks := false }, kinds := [], alts := [], laidByText := true, laidKinds := [.data, .data, .data], laidTests := true, laidLooks := .later }
def TermAgreesUptoCardSaid : Prop := Claim7.holds Tryd.pinned (.plain (OpenSpec.upto termAgreesSpec)) termAgreesUptoCard

/-- THE SECOND FORM's CARD OF 'sluicewaylaw01.TermKeys'. -/
def termKeysUptoCard : Claim7 := { stood := { row := termKeysUptoRow, standIns := [], harness := (true, "7fbce7272dcc703abbd24aa777e25da4d4a1de77e62a0175bed46786e73702ea"), looks := false }, kinds := [], alts := [], laidByText := true, laidKinds := [.data, .data, .data], laidTests := true, laidLooks := .later }
def TermKeysUptoCardSaid : Prop := Claim7.holds Tryd.pinned (.plain (OpenSpec.upto termKeysSpec)) termKeysUptoCard

/-- THE SECOND FORM's CARD OF 'sluicewaylaw01.TermSigns'. -/
def termSignsUptoCard : Claim7 := { stood := { row := termSignsUptoRow, standIns := [], harness := (true, "7fbce7272dcc703abbd24aa777e25da4d4a1de77e62a0175bed46786e73702ea"), looks := false }, kinds := [], alts := [], laidByText := true, laidKinds := [.data, .data, .data], laidTests := true, laidLooks := .later }
def TermSignsUptoCardSaid : Prop := Claim7.holds Tryd.pinned (.plain (OpenSpec.upto termSignsSpec)) termSignsUptoCard

/-- THE SECOND FORM's CARD OF 'sluicewaylaw01.TermKnown'. -/
def termKnownUptoCard : Claim7 := { stood := { row := termKnownUptoRow, standIns := [], harness := (true, "7fbce7272dcc703abbd24aa777e25da4d4a1de77e62a0175bed46786e73702ea"), looks := false }, kinds := [], alts := [], laidByText := true, laidKinds := [.data, .data, .data], laidTests := true, laidLooks := .later }
def TermKnownUptoCardSaid : Prop := Claim7.holds Tryd.pinned (.plain (OpenSpec.upto termKnownSpec)) termKnownUptoCard
end Rows
end Go.Proofs.YtcmpiffkmnbepaaDoor
