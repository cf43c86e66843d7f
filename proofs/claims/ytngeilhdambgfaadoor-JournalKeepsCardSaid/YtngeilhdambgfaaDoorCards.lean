/-
  DERIVED. GIVEN WITH THE SEED: THE CARDS: each row of YtngeilhdambgfaaDoorRows.lean that lists a variable, with what it lists TIED to the program's text (the seventh form; the later family's looks); each row that meets fmt, with fmt's text TOLD by the authors' own Lean function (tested against real Go, not proved from fmt's source: count such statements apart). THE CARD IS WHAT COUNTS. Prove the row's statement (the work); the ties are given (YtngeilhdambgfaaDoorTie.lean); close each card by the builder's one call (the guide's Derived/Test/ToyasCard.lean, 'card_holds'). Laid BY PROGRAM, IN A SANDBOX (cutbox-door.mjs). By AI agents, Wed Nov 11 2026. No macro, syntax, notation, axiom, sorry.
-/
import Derived.Test.YtngeilhdambgfaaDoorRows
import GoSem.ClaimSeven
namespace Go.Proofs.YtngeilhdambgfaaDoor
namespace Rows

/-- THE TIED CARD OF 'catacomblaw10.JournalKeeps'. -/
def journalKeepsCard : Claim7 := { stood := { row := journalKeepsRow, standIns := [], harness := (true, "aa6422befb56602cbb39d45377c74344a5ed5e9164e392a412c54f3dbf6acb0d"), looks := false }, kinds := [], alts := [], laidByText := true, laidKinds := [.data], laidTests := true, laidLooks := .later }
def JournalKeepsCardSaid : Prop := Claim7.holds Tryd.pinned (.plain (OpenSpec.ofChange journalKeepsSpec)) journalKeepsCard

/-- THE TIED CARD OF 'catacomblaw10.JournalOver'. -/
def journalOverCard : Claim7 := { stood := { row := journalOverRow, standIns := [], harness := (true, "aa6422befb56602cbb39d45377c74344a5ed5e9164e392a412c54f3dbf6acb0d"), looks := false }, kinds := [], alts := [], laidByText := true, laidKinds := [.data], laidTests := true, laidLooks := .later }
def JournalOverCardSaid : Prop := Claim7.holds Tryd.pinned (.plain (OpenSpec.ofChange journalOverSpec)) journalOverCard

/-- THE TIED CARD OF 'catacomblaw10.JournalArgs'. -/
def journalArgsCard : Claim7 := { stood := { row := journalArgsRow, standIns := [], harness := (true, "aa6422befb56602cbb39d45377c74344a5ed5e9164e392a412c54f3dbf6acb0d"), looks := false }, kinds := [], alts := [], laidByText := true, laidKinds := [.data], laidTests := true, laidLooks := .later }
def JournalArgsCardSaid : Prop := Claim7.holds Tryd.pinned (.plain (OpenSpec.ofChange journalArgsSpec)) journalArgsCard

/-- THE TIED CARD OF 'catacomblaw10.JournalWhole'. -/
def journalWholeCard : Claim7 := { stood := { row := journalWholeRow, standIns := [], harness := (true, "aa6422befb56602cbb39d45377c74344a5ed5e9164e392a412c54f3dbf6acb0d"), looks := false }, kinds := [], alts := [], laidByText := true, laidKinds := [.data], laidTests := true, laidLooks := .later }
def JournalWholeCardSaid : Prop := Claim7.holds Tryd.pinned (.plain (OpenSpec.ofChange journalWholeSpec)) journalWholeCard

/-- THE SECOND FORM's CARD OF 'catacomblaw10.JournalKeeps'. -/
def journalKeepsUptoCard : Claim7 := { stood := { row := journalKeepsUptoRow, standIns := [], harness := (true, "aa6422befb56602cbb39d45377c74344a5ed5e9164e392a412c54f3dbf6acb0d"), looks := false }, kinds := [], alts := [], laidByText := true, laidKinds := [.data], laidTests := true, laidLooks := .later }
def JournalKeepsUptoCardSaid : Prop := Claim7.holds Tryd.pinned (.plain (OpenSpec.upto journalKeepsSpec)) journalKeepsUptoCard

/-- THE SECOND FORM's CARD OF 'catacomblaw10.JournalOver'. -/
def journalOverUptoCard : Claim7 := { stood := { row := journalOverUptoRow, standIns := [], harness := (true, "aa6422befb56602cbb39d45377c74344a5ed5e9164e392a412c54f3dbf6acb0d"), looks := false }, kinds := [], alts := [], laidByText := true, laidKinds := [.data], laidTests := true, laidLooks := .later }
def JournalOverUptoCardSaid : Prop := Claim7.holds Tryd.pinned (.plain (OpenSpec.upto journalOverSpec)) journalOverUptoCard

/-- THE SECOND FORM's CARD OF 'catacomblaw10.JournalArgs'. -/
def journalArgsUptoCard : Claim7 := { stood := { row := journalArgsUptoRow, standIns := [], harness := (true, "aa6422befb56602cbb39d45377c74344a5ed5e9164e392a412c54f3dbf6acb0d"), looks := false }, kinds := [], alts := [], laidByText := true, laidKinds := [.data], laidTests := true, laidLooks := .later }
def JournalArgsUptoCardSaid : Prop := Claim7.holds Tryd.pinned (.plain (OpenSpec.upto journalArgsSpec)) journalArgsUptoCard

/-- THE SECOND FORM's CARD OF 'catacomblaw10.JournalWhole'. -/
def journalWholeUptoCard : Claim7 := { stood := { row := journalWholeUptoRow, standIns := [], harness := (true, "aa6422befb56602cbb39d45377c74344a5ed5e9164e392a412c54f3dbf6acb0d"), looks := false }, kinds := [], alts := [], laidByText := true, laidKinds := [.data], laidTests := true, laidLooks := .later }
def JournalWholeUptoCardSaid : Prop := Claim7.holds Tryd.pinned (.plain (OpenSpec.upto journalWholeSpec)) journalWholeUptoCard
end Rows
end Go.Proofs.YtngeilhdambgfaaDoor
