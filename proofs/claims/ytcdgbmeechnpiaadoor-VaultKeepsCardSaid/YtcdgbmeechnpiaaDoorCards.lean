/-
  DERIVED. GIVEN WITH THE SEED: THE CARDS: each row of YtcdgbmeechnpiaaDoorRows.lean that lists a variable, with what it lists TIED to the program's text (the seventh form; the later family's looks); each row that meets fmt, with fmt's text TOLD by the authors' own Lean function (tested against real Go, not proved from fmt's source: count such statements apart). THE CARD IS WHAT COUNTS. Prove the row's statement (the work); the ties are given (YtcdgbmeechnpiaaDoorTie.lean); close each card by the builder's one call (the guide's Derived/Test/ToyasCard.lean, 'card_holds'). Laid BY PROGRAM, IN A SANDBOX (cutbox-door.mjs). By AI agents, Wed Nov 11 2026. No macro, syntax, notation, axiom, sorry.
-/
import Derived.Test.YtcdgbmeechnpiaaDoorRows
import GoSem.ClaimSeven
namespace Go.Proofs.YtcdgbmeechnpiaaDoor
namespace Rows

/-- THE TIED CARD OF 'catacomblaw11.VaultKeeps'. -/
def vaultKeepsCard : Claim7 := { stood := { row := vaultKeepsRow, standIns := [], harness := (true, "f5f70dcb415e9a008ac97d4e78472f32d23728226a02a3f80d58c985efe89eba"), looks := false }, kinds := [], alts := [], laidByText := true, laidKinds := [.data], laidTests := true, laidLooks := .later }
def VaultKeepsCardSaid : Prop := Claim7.holds Tryd.pinned (.plain (OpenSpec.ofChange vaultKeepsSpec)) vaultKeepsCard

/-- THE TIED CARD OF 'catacomblaw11.VaultForgets'. -/
def vaultForgetsCard : Claim7 := { stood := { row := vaultForgetsRow, standIns := [], harness := (true, "f5f70dcb415e9a008ac97d4e78472f32d23728226a02a3f80d58c985efe89eba"), looks := false }, kinds := [], alts := [], laidByText := true, laidKinds := [.data], laidTests := true, laidLooks := .later }
def VaultForgetsCardSaid : Prop := Claim7.holds Tryd.pinned (.plain (OpenSpec.ofChange vaultForgetsSpec)) vaultForgetsCard

/-- THE SECOND FORM's CARD OF 'catacomblaw11.VaultKeeps'. -/
def vaultKeepsUptoCard : Claim7 := { stood := { row := vaultKeepsUptoRow, standIns := [], harness := (true, "f5f70dcb415e9a008ac97d4e78472f32d23728226a02a3f80d58c985efe89eba"), looks := false }, kinds := [], alts := [], laidByText := true, laidKinds := [.data], laidTests := true, laidLooks := .later }
def VaultKeepsUptoCardSaid : Prop := Claim7.holds Tryd.pinned (.plain (OpenSpec.upto vaultKeepsSpec)) vaultKeepsUptoCard

/-- THE SECOND FORM's CARD OF 'catacomblaw11.VaultForgets'. -/
def vaultForgetsUptoCard : Claim7 := { stood := { row := vaultForgetsUptoRow, standIns := [], harness := (true, "f5f70dcb415e9a008ac97d4e78472f32d23728226a02a3f80d58c985efe89eba"), looks := false }, kinds := [], alts := [], laidByText := true, laidKinds := [.data], laidTests := true, laidLooks := .later }
def VaultForgetsUptoCardSaid : Prop := Claim7.holds Tryd.pinned (.plain (OpenSpec.upto vaultForgetsSpec)) vaultForgetsUptoCard
end Rows
end Go.Proofs.YtcdgbmeechnpiaaDoor
