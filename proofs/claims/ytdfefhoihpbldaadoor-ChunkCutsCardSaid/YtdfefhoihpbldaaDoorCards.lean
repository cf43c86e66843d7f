/-
  DERIVED. GIVEN WITH THE SEED: THE CARDS: each row of YtdfefhoihpbldaaDoorRows.lean that lists a variable, with what it lists TIED to the program's text (the seventh form; the later family's looks); each row that meets fmt, with fmt's text TOLD by the authors' own Lean function (tested against real Go, not proved from fmt's source: count such statements apart). THE CARD IS WHAT COUNTS. Prove the row's statement (the work); the ties are given (YtdfefhoihpbldaaDoorTie.lean); close each card by the builder's one call (the guide's Derived/Test/ToyasCard.lean, 'card_holds'). Laid BY PROGRAM, IN A SANDBOX (cutbox-door.mjs). By AI agents, Wed Nov 11 2026. No macro, syntax, notation, axiom, sorry.
-/
import Derived.Test.YtdfefhoihpbldaaDoorRows
import GoSem.ClaimSeven
namespace Go.Proofs.YtdfefhoihpbldaaDoor
namespace Rows

/-- THE TIED CARD OF 'catacomblaw04.ChunkPacks'. -/
def chunkPacksCard : Claim7 := { stood := { row := chunkPacksRow, standIns := [], harness := (true, "5b1bb9bde3aa6655e5f03c7462e862dfabd3be8d5e4a70279541b7f770206de5"), looks := false }, kinds := [], alts := [], laidByText := true, laidKinds := [.data], laidTests := true, laidLooks := .later }
def ChunkPacksCardSaid : Prop := Claim7.holds Tryd.pinned (.plain (OpenSpec.ofChange chunkPacksSpec)) chunkPacksCard

/-- THE TIED CARD OF 'catacomblaw04.ChunkUnpacks'. -/
def chunkUnpacksCard : Claim7 := { stood := { row := chunkUnpacksRow, standIns := [], harness := (true, "5b1bb9bde3aa6655e5f03c7462e862dfabd3be8d5e4a70279541b7f770206de5"), looks := false }, kinds := [], alts := [], laidByText := true, laidKinds := [.data], laidTests := true, laidLooks := .later }
def ChunkUnpacksCardSaid : Prop := Claim7.holds Tryd.pinned (.plain (OpenSpec.ofChange chunkUnpacksSpec)) chunkUnpacksCard

/-- THE TIED CARD OF 'catacomblaw04.ChunkCuts'. -/
def chunkCutsCard : Claim7 := { stood := { row := chunkCutsRow, standIns := [], harness := (true, "5b1bb9bde3aa6655e5f03c7462e862dfabd3be8d5e4a70279541b7f770206de5"), looks := false }, kinds := [], alts := [], laidByText := true, laidKinds := [.data], laidTests := true, laidLooks := .later }
def ChunkCutsCardSaid : Prop := Claim7.holds Tryd.pinned (.plain (OpenSpec.ofChange chunkCutsSpec)) chunkCutsCard

/-- THE TIED CARD OF 'catacomblaw04.ChunkMerges'. -/
def chunkMergesCard : Claim7 := { stood := { row := chunkMergesRow, standIns := [], harness := (true, "5b1bb9bde3aa6655e5f03c7462e862dfabd3be8d5e4a70279541b7f770206de5"), looks := false }, kinds := [], alts := [], laidByText := true, laidKinds := [.data], laidTests := true, laidLooks := .later }
def ChunkMergesCardSaid : Prop := Claim7.holds Tryd.pinned (.plain (OpenSpec.ofChange chunkMergesSpec)) chunkMergesCard

/-- THE SECOND FORM's CARD OF 'catacomblaw04.ChunkPacks'. -/
def chunkPacksUptoCard : Claim7 := { stood := { row := chunkPacksUptoRow, standIns := [], harness := (true, "5b1bb9bde3aa6655e5f03c7462e862dfabd3be8d5e4a70279541b7f770206de5"), looks := false }, kinds := [], alts := [], laidByText := true, laidKinds := [.data], laidTests := true, laidLooks := .later }
def ChunkPacksUptoCardSaid : Prop := Claim7.holds Tryd.pinned (.plain (OpenSpec.upto chunkPacksSpec)) chunkPacksUptoCard

/-- THE SECOND FORM's CARD OF 'catacomblaw04.ChunkUnpacks'. -/
def chunkUnpacksUptoCard : Claim7 := { stood := { row := chunkUnpacksUptoRow, standIns := [], harness := (true, "5b1bb9bde3aa6655e5f03c7462e862dfabd3be8d5e4a70279541b7f770206de5"), looks := false }, kinds := [], alts := [], laidByText := true, laidKinds := [.data], laidTests := true, laidLooks := .later }
def ChunkUnpacksUptoCardSaid : Prop := Claim7.holds Tryd.pinned (.plain (OpenSpec.upto chunkUnpacksSpec)) chunkUnpacksUptoCard

/-- THE SECOND FORM's CARD OF 'catacomblaw04.ChunkCuts'. -/
def chunkCutsUptoCard : Claim7 := { stood := { row := chunkCutsUptoRow, standIns := [], harness := (true, "5b1bb9bde3aa6655e5f03c7462e862dfabd3be8d5e4a70279541b7f770206de5"), looks := false }, kinds := [], alts := [], laidByText := true, laidKinds := [.data], laidTests := true, laidLooks := .later }
def ChunkCutsUptoCardSaid : Prop := Claim7.holds Tryd.pinned (.plain (OpenSpec.upto chunkCutsSpec)) chunkCutsUptoCard

/-- THE SECOND FORM's CARD OF 'catacomblaw04.ChunkMerges'. -/
def chunkMergesUptoCard : Claim7 := { stood := { row := chunkMergesUptoRow, standIns := [], harness := (true, "5b1bb9bde3aa6655e5f03c7462e862dfabd3be8d5e4a70279541b7f770206de5"), looks := false }, kinds := [], alts := [], laidByText := true, laidKinds := [.data], laidTests := true, laidLooks := .later }
def ChunkMergesUptoCardSaid : Prop := Claim7.holds Tryd.pinned (.plain (OpenSpec.upto chunkMergesSpec)) chunkMergesUptoCard
end Rows
end Go.Proofs.YtdfefhoihpbldaaDoor
