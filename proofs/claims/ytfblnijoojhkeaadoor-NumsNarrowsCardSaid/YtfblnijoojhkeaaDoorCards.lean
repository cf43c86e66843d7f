/-
  DERIVED. GIVEN WITH THE SEED: THE CARDS: each row of YtfblnijoojhkeaaDoorRows.lean that lists a variable, with what it lists TIED to the program's text (the seventh form; the later family's looks); each row that meets fmt, with fmt's text TOLD by the authors' own Lean function (tested against real Go, not proved from fmt's source: count such statements apart). THE CARD IS WHAT COUNTS. Prove the row's statement (the work); the ties are given (YtfblnijoojhkeaaDoorTie.lean); close each card by the builder's one call (the guide's Derived/Test/ToyasCard.lean, 'card_holds'). Laid BY PROGRAM, IN A SANDBOX (cutbox-door.mjs). By AI agents, Wed Nov 11 2026. No macro, syntax, notation, axiom, sorry.
-/
import Derived.Test.YtfblnijoojhkeaaDoorRows
import GoSem.ClaimSeven
namespace Go.Proofs.YtfblnijoojhkeaaDoor
namespace Rows

/-- THE TIED CARD OF 'catacomblaw01.NumsAdds'. -/
def numsAddsCard : Claim7 := { stood := { row := numsAddsRow, standIns := [], harness := (true, "3a07ab05321a22e4a4389edb526be7bf7f74cab3585e039a014a39dc8b37b567"), looks := false }, kinds := [], alts := [], laidByText := true, laidKinds := [.data], laidTests := true, laidLooks := .later }
def NumsAddsCardSaid : Prop := Claim7.holds Tryd.pinned (.plain (OpenSpec.ofChange numsAddsSpec)) numsAddsCard

/-- THE TIED CARD OF 'catacomblaw01.NumsMuls'. -/
def numsMulsCard : Claim7 := { stood := { row := numsMulsRow, standIns := [], harness := (true, "3a07ab05321a22e4a4389edb526be7bf7f74cab3585e039a014a39dc8b37b567"), looks := false }, kinds := [], alts := [], laidByText := true, laidKinds := [.data], laidTests := true, laidLooks := .later }
def NumsMulsCardSaid : Prop := Claim7.holds Tryd.pinned (.plain (OpenSpec.ofChange numsMulsSpec)) numsMulsCard

/-- THE TIED CARD OF 'catacomblaw01.NumsShifts'. -/
def numsShiftsCard : Claim7 := { stood := { row := numsShiftsRow, standIns := [], harness := (true, "3a07ab05321a22e4a4389edb526be7bf7f74cab3585e039a014a39dc8b37b567"), looks := false }, kinds := [], alts := [], laidByText := true, laidKinds := [.data], laidTests := true, laidLooks := .later }
def NumsShiftsCardSaid : Prop := Claim7.holds Tryd.pinned (.plain (OpenSpec.ofChange numsShiftsSpec)) numsShiftsCard

/-- THE TIED CARD OF 'catacomblaw01.NumsNarrows'. -/
def numsNarrowsCard : Claim7 := { stood := { row := numsNarrowsRow, standIns := [], harness := (true, "3a07ab05321a22e4a4389edb526be7bf7f74cab3585e039a014a39dc8b37b567"), looks := false }, kinds := [], alts := [], laidByText := true, laidKinds := [.data], laidTests := true, laidLooks := .later }
def NumsNarrowsCardSaid : Prop := Claim7.holds Tryd.pinned (.plain (OpenSpec.ofChange numsNarrowsSpec)) numsNarrowsCard

/-- THE TIED CARD OF 'catacomblaw01.NumsFolds'. -/
def numsFoldsCard : Claim7 := { stood := { row := numsFoldsRow, standIns := [], harness := (true, "3a07ab05321a22e4a4389edb526be7bf7f74cab3585e039a014a39dc8b37b567"), looks := false }, kinds := [], alts := [], laidByText := true, laidKinds := [.data], laidTests := true, laidLooks := .later }
def NumsFoldsCardSaid : Prop := Claim7.holds Tryd.pinned (.plain (OpenSpec.ofChange numsFoldsSpec)) numsFoldsCard

/-- THE TIED CARD OF 'catacomblaw01.NumsRise'. -/
def numsRiseCard : Claim7 := { stood := { row := numsRiseRow, standIns := [], harness := (true, "3a07ab05321a22e4a4389edb526be7bf7f74cab3585e039a014a39dc8b37b567"), looks := false }, kinds := [], alts := [], laidByText := true, laidKinds := [.data], laidTests := true, laidLooks := .later }
def NumsRiseCardSaid : Prop := Claim7.holds Tryd.pinned (.plain (OpenSpec.ofChange numsRiseSpec)) numsRiseCard

/-- THE SECOND FORM's CARD OF 'catacomblaw01.NumsAdds'. -/
def numsAddsUptoCard : Claim7 := { stood := { row := numsAddsUptoRow, standIns := [], harness := (true, "3a07ab05321a22e4a4389edb526be7bf7f74cab3585e039a014a39dc8b37b567"), looks := false }, kinds := [], alts := [], laidByText := true, laidKinds := [.data], laidTests := true, laidLooks := .later }
def NumsAddsUptoCardSaid : Prop := Claim7.holds Tryd.pinned (.plain (OpenSpec.upto numsAddsSpec)) numsAddsUptoCard

/-- THE SECOND FORM's CARD OF 'catacomblaw01.NumsMuls'. -/
def numsMulsUptoCard : Claim7 := { stood := { row := numsMulsUptoRow, standIns := [], harness := (true, "3a07ab05321a22e4a4389edb526be7bf7f74cab3585e039a014a39dc8b37b567"), looks := false }, kinds := [], alts := [], laidByText := true, laidKinds := [.data], laidTests := true, laidLooks := .later }
def NumsMulsUptoCardSaid : Prop := Claim7.holds Tryd.pinned (.plain (OpenSpec.upto numsMulsSpec)) numsMulsUptoCard

/-- THE SECOND FORM's CARD OF 'catacomblaw01.NumsShifts'. -/
def numsShiftsUptoCard : Claim7 := { stood := { row := numsShiftsUptoRow, standIns := [], harness := (true, "3a07ab05321a22e4a4389edb526be7bf7f74cab3585e039a014a39dc8b37b567"), looks := false }, kinds := [], alts := [], laidByText := true, laidKinds := [.data], laidTests := true, laidLooks := .later }
def NumsShiftsUptoCardSaid : Prop := Claim7.holds Tryd.pinned (.plain (OpenSpec.upto numsShiftsSpec)) numsShiftsUptoCard

/-- THE SECOND FORM's CARD OF 'catacomblaw01.NumsNarrows'. -/
def numsNarrowsUptoCard : Claim7 := { stood := { row := numsNarrowsUptoRow, standIns := [], harness := (true, "3a07ab05321a22e4a4389edb526be7bf7f74cab3585e039a014a39dc8b37b567"), looks := false }, kinds := [], alts := [], laidByText := true, laidKinds := [.data], laidTests := true, laidLooks := .later }
def NumsNarrowsUptoCardSaid : Prop := Claim7.holds Tryd.pinned (.plain (OpenSpec.upto numsNarrowsSpec)) numsNarrowsUptoCard

/-- THE SECOND FORM's CARD OF 'catacomblaw01.NumsFolds'. -/
def numsFoldsUptoCard : Claim7 := { stood := { row := numsFoldsUptoRow, standIns := [], harness := (true, "3a07ab05321a22e4a4389edb526be7bf7f74cab3585e039a014a39dc8b37b567"), looks := false }, kinds := [], alts := [], laidByText := true, laidKinds := [.data], laidTests := true, laidLooks := .later }
def NumsFoldsUptoCardSaid : Prop := Claim7.holds Tryd.pinned (.plain (OpenSpec.upto numsFoldsSpec)) numsFoldsUptoCard

/-- THE SECOND FORM's CARD OF 'catacomblaw01.NumsRise'. -/
def numsRiseUptoCard : Claim7 := { stood := { row := numsRiseUptoRow, standIns := [], harness := (true, "3a07ab05321a22e4a4389edb526be7bf7f74cab3585e039a014a39dc8b37b567"), looks := false }, kinds := [], alts := [], laidByText := true, laidKinds := [.data], laidTests := true, laidLooks := .later }
def NumsRiseUptoCardSaid : Prop := Claim7.holds Tryd.pinned (.plain (OpenSpec.upto numsRiseSpec)) numsRiseUptoCard
end Rows
end Go.Proofs.YtfblnijoojhkeaaDoor
