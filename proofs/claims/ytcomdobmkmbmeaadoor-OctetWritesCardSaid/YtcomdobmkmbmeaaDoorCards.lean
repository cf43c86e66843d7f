/-
  DERIVED. GIVEN WITH THE SEED: THE CARDS: each row of YtcomdobmkmbmeaaDoorRows.lean that lists a variable, with what it lists TIED to the program's text (the seventh form; the later family's looks); each row that meets fmt, with fmt's text TOLD by the authors' own Lean function (tested against real Go, not proved from fmt's source: count such statements apart). THE CARD IS WHAT COUNTS. Prove the row's statement (the work); the ties are given (YtcomdobmkmbmeaaDoorTie.lean); close each card by the builder's one call (the guide's Derived/Test/ToyasCard.lean, 'card_holds'). Laid BY PROGRAM, IN A SANDBOX (cutbox-door.mjs). By AI agents, Wed Nov 11 2026. No macro, syntax, notation, axiom, sorry.
-/
import Derived.Test.YtcomdobmkmbmeaaDoorRows
import GoSem.ClaimSeven
namespace Go.Proofs.YtcomdobmkmbmeaaDoor
namespace Rows

/-- THE TIED CARD OF 'catacomblaw03.OctetWrites'. -/
def octetWritesCard : Claim7 := { stood := { row := octetWritesRow, standIns := [], harness := (true, "20cc448ec6e30a3c0e7275324d65ebb0e9e60b94ef03fcc2b7730e9e3d8c3207"), looks := false }, kinds := [], alts := [], laidByText := true, laidKinds := [.data], laidTests := true, laidLooks := .later }
def OctetWritesCardSaid : Prop := Claim7.holds Tryd.pinned (.plain (OpenSpec.ofChange octetWritesSpec)) octetWritesCard

/-- THE TIED CARD OF 'catacomblaw03.OctetOrders'. -/
def octetOrdersCard : Claim7 := { stood := { row := octetOrdersRow, standIns := [], harness := (true, "20cc448ec6e30a3c0e7275324d65ebb0e9e60b94ef03fcc2b7730e9e3d8c3207"), looks := false }, kinds := [], alts := [], laidByText := true, laidKinds := [.data], laidTests := true, laidLooks := .later }
def OctetOrdersCardSaid : Prop := Claim7.holds Tryd.pinned (.plain (OpenSpec.ofChange octetOrdersSpec)) octetOrdersCard

/-- THE SECOND FORM's CARD OF 'catacomblaw03.OctetWrites'. -/
def octetWritesUptoCard : Claim7 := { stood := { row := octetWritesUptoRow, standIns := [], harness := (true, "20cc448ec6e30a3c0e7275324d65ebb0e9e60b94ef03fcc2b7730e9e3d8c3207"), looks := false }, kinds := [], alts := [], laidByText := true, laidKinds := [.data], laidTests := true, laidLooks := .later }
def OctetWritesUptoCardSaid : Prop := Claim7.holds Tryd.pinned (.plain (OpenSpec.upto octetWritesSpec)) octetWritesUptoCard

/-- THE SECOND FORM's CARD OF 'catacomblaw03.OctetOrders'. -/
def octetOrdersUptoCard : Claim7 := { stood := { row := octetOrdersUptoRow, standIns := [], harness := (true, "20cc448ec6e30a3c0e7275324d65ebb0e9e60b94ef03fcc2b7730e9e3d8c3207"), looks := false }, kinds := [], alts := [], laidByText := true, laidKinds := [.data], laidTests := true, laidLooks := .later }
def OctetOrdersUptoCardSaid : Prop := Claim7.holds Tryd.pinned (.plain (OpenSpec.upto octetOrdersSpec)) octetOrdersUptoCard
end Rows
end Go.Proofs.YtcomdobmkmbmeaaDoor
