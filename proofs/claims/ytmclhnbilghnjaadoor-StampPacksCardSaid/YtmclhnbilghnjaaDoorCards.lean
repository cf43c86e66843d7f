/-
  DERIVED. GIVEN WITH THE SEED: THE CARDS: each row of YtmclhnbilghnjaaDoorRows.lean that lists a variable, with what it lists TIED to the program's text (the seventh form; the later family's looks); each row that meets fmt, with fmt's text TOLD by the authors' own Lean function (tested against real Go, not proved from fmt's source: count such statements apart). THE CARD IS WHAT COUNTS. Prove the row's statement (the work); the ties are given (YtmclhnbilghnjaaDoorTie.lean); close each card by the builder's one call (the guide's Derived/Test/ToyasCard.lean, 'card_holds'). Laid BY PROGRAM, IN A SANDBOX (cutbox-door.mjs). By AI agents, Wed Nov 11 2026. No macro, syntax, notation, axiom, sorry.
-/
import Derived.Test.YtmclhnbilghnjaaDoorRows
import GoSem.ClaimSeven
namespace Go.Proofs.YtmclhnbilghnjaaDoor
namespace Rows

/-- THE TIED CARD OF 'catacomblaw09.StampPacks'. -/
def stampPacksCard : Claim7 := { stood := { row := stampPacksRow, standIns := [], harness := (true, "58b14993b2e017a7142cfb28ee1cc061917054c2c8dfee4a03bec3516c602fba"), looks := false }, kinds := [], alts := [], laidByText := true, laidKinds := [.data], laidTests := true, laidLooks := .later }
def StampPacksCardSaid : Prop := Claim7.holds Tryd.pinned (.plain (OpenSpec.ofChange stampPacksSpec)) stampPacksCard

/-- THE SECOND FORM's CARD OF 'catacomblaw09.StampPacks'. -/
def stampPacksUptoCard : Claim7 := { stood := { row := stampPacksUptoRow, standIns := [], harness := (true, "58b14993b2e017a7142cfb28ee1cc061917054c2c8dfee4a03bec3516c602fba"), looks := false }, kinds := [], alts := [], laidByText := true, laidKinds := [.data], laidTests := true, laidLooks := .later }
def StampPacksUptoCardSaid : Prop := Claim7.holds Tryd.pinned (.plain (OpenSpec.upto stampPacksSpec)) stampPacksUptoCard
end Rows
end Go.Proofs.YtmclhnbilghnjaaDoor
