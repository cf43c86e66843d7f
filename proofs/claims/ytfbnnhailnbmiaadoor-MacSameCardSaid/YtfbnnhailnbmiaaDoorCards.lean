/-
  DERIVED. GIVEN WITH THE SEED: THE CARDS: each row of YtfbnnhailnbmiaaDoorRows.lean that lists a variable, with what it lists TIED to the program's text (the seventh form; the later family's looks); each row that meets fmt, with fmt's text TOLD by the authors' own Lean function (tested against real Go, not proved from fmt's source: count such statements apart). THE CARD IS WHAT COUNTS. Prove the row's statement (the work); the ties are given (YtfbnnhailnbmiaaDoorTie.lean); close each card by the builder's one call (the guide's Derived/Test/ToyasCard.lean, 'card_holds'). Laid BY PROGRAM, IN A SANDBOX (cutbox-door.mjs). By AI agents, Wed Nov 11 2026. No macro, syntax, notation, axiom, sorry.
-/
import Derived.Test.YtfbnnhailnbmiaaDoorRows
import GoSem.ClaimSeven
namespace Go.Proofs.YtfbnnhailnbmiaaDoor
namespace Rows

/-- THE TIED CARD OF 'catacomblaw06.MacCodes'. -/
def macCodesCard : Claim7 := { stood := { row := macCodesRow, standIns := [], harness := (true, "4483af999c8fa6eb37d87ecc8b72fc40f38cfa937f2d71d106479cde811869db"), looks := false }, kinds := [], alts := [], laidByText := true, laidKinds := [.data, .data], laidTests := true, laidLooks := .later }
def MacCodesCardSaid : Prop := Claim7.holds Tryd.pinned (.plain (OpenSpec.ofChange macCodesSpec)) macCodesCard

/-- THE TIED CARD OF 'catacomblaw06.MacTokens'. -/
def macTokensCard : Claim7 := { stood := { row := macTokensRow, standIns := [], harness := (true, "4483af999c8fa6eb37d87ecc8b72fc40f38cfa937f2d71d106479cde811869db"), looks := false }, kinds := [], alts := [], laidByText := true, laidKinds := [.data, .data], laidTests := true, laidLooks := .later }
def MacTokensCardSaid : Prop := Claim7.holds Tryd.pinned (.plain (OpenSpec.ofChange macTokensSpec)) macTokensCard

/-- THE TIED CARD OF 'catacomblaw06.MacTurned'. -/
def macTurnedCard : Claim7 := { stood := { row := macTurnedRow, standIns := [], harness := (true, "4483af999c8fa6eb37d87ecc8b72fc40f38cfa937f2d71d106479cde811869db"), looks := false }, kinds := [], alts := [], laidByText := true, laidKinds := [.data, .data], laidTests := true, laidLooks := .later }
def MacTurnedCardSaid : Prop := Claim7.holds Tryd.pinned (.plain (OpenSpec.ofChange macTurnedSpec)) macTurnedCard

/-- THE TIED CARD OF 'catacomblaw06.MacSame'. -/
def macSameCard : Claim7 := { stood := { row := macSameRow, standIns := [], harness := (true, "4483af999c8fa6eb37d87ecc8b72fc40f38cfa937f2d71d106479cde811869db"), looks := false }, kinds := [], alts := [], laidByText := true, laidKinds := [.data, .data], laidTests := true, laidLooks := .later }
def MacSameCardSaid : Prop := Claim7.holds Tryd.pinned (.plain (OpenSpec.ofChange macSameSpec)) macSameCard

/-- THE SECOND FORM's CARD OF 'catacomblaw06.MacCodes'. -/
def macCodesUptoCard : Claim7 := { stood := { row := macCodesUptoRow, standIns := [], harness := (true, "4483af999c8fa6eb37d87ecc8b72fc40f38cfa937f2d71d106479cde811869db"), looks := false }, kinds := [], alts := [], laidByText := true, laidKinds := [.data, .data], laidTests := true, laidLooks := .later }
def MacCodesUptoCardSaid : Prop := Claim7.holds Tryd.pinned (.plain (OpenSpec.upto macCodesSpec)) macCodesUptoCard

/-- THE SECOND FORM's CARD OF 'catacomblaw06.MacTokens'. -/
def macTokensUptoCard : Claim7 := { stood := { row := macTokensUptoRow, standIns := [], harness := (true, "4483af999c8fa6eb37d87ecc8b72fc40f38cfa937f2d71d106479cde811869db"), looks := false }, kinds := [], alts := [], laidByText := true, laidKinds := [.data, .data], laidTests := true, laidLooks := .later }
def MacTokensUptoCardSaid : Prop := Claim7.holds Tryd.pinned (.plain (OpenSpec.upto macTokensSpec)) macTokensUptoCard

/-- THE SECOND FORM's CARD OF 'catacomblaw06.MacTurned'. -/
def macTurnedUptoCard : Claim7 := { stood := { row := macTurnedUptoRow, standIns := [], harness := (true, "4483af999c8fa6eb37d87ecc8b72fc40f38cfa937f2d71d106479cde811869db"), looks := false }, kinds := [], alts := [], laidByText := true, laidKinds := [.data, .data], laidTests := true, laidLooks := .later }
def MacTurnedUptoCardSaid : Prop := Claim7.holds Tryd.pinned (.plain (OpenSpec.upto macTurnedSpec)) macTurnedUptoCard

/-- THE SECOND FORM's CARD OF 'catacomblaw06.MacSame'. -/
def macSameUptoCard : Claim7 := { stood := { row := macSameUptoRow, standIns := [], harness := (true, "4483af999c8fa6eb37d87ecc8b72fc40f38cfa937f2d71d106479cde811869db"), looks := false }, kinds := [], alts := [], laidByText := true, laidKinds := [.data, .data], laidTests := true, laidLooks := .later }
def MacSameUptoCardSaid : Prop := Claim7.holds Tryd.pinned (.plain (OpenSpec.upto macSameSpec)) macSameUptoCard
end Rows
end Go.Proofs.YtfbnnhailnbmiaaDoor
