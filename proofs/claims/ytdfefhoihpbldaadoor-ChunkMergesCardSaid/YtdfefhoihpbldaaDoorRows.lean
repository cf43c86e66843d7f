/-
  NARROWER THAN 'FOR EVERY INPUT', by the rows' own cells (each row's printed sentence says how): ChunkPacks: laid · ChunkUnpacks: laid · ChunkCuts: laid · ChunkMerges: laid.
  DERIVED. THE GIVEN ROWS OF THIS SEAT. 4 by the template 'for every input the law returns true; each argument reads behind the call as it read before'; 0 by the template 'total and deterministic' (their statements: YtdfefhoihpbldaaDoorTotals.lean).
  GIVEN WITH THE SEED: the statements are not yours to turn. If you find one false, say at which input.
  Laid BY PROGRAM, IN A SANDBOX (cutbox-rows.mjs): the forced cells as the released guide's own fill.sh prints them over the translation ae009292daae4165… (all of the seat's roots in one cut). By AI agents, Wed Nov 11 2026. No macro, syntax, notation, axiom, sorry.
-/
import Derived.Test.YtdfefhoihpbldaaDoorChecked
import GoSem.Claim
import GoSem.ClaimJoined
import GoSem.ClaimMapViews
import Derived.JoinedTies
import Derived.KernelRfl
namespace Go.Proofs.YtdfefhoihpbldaaDoor
/- THE CELL 'sum', in the pinned program and in every row, IS THE sha256 OF THE DUMP (.gsa) THAT YtdfefhoihpbldaaDoorProg.lean LOADS. Nothing in Lean hashes anything: it is a label: what it is worth is what the hold of that sum in a sandbox is worth. -/
noncomputable def Tryd.pinned : Pinned := { name := "ytdfefhoihpbldaadoor", sum := "ae009292daae4165aa90d7bddaf1473ed62383290feee0380c96b149739e112b", checked := Tryd.checked }
namespace Rows
def none {H : Type} : Left H := { results := [], args := [] }

/- WHAT THE LISTED PACKAGE-LEVEL VARIABLES READ AS WHEN THE CALL BEGINS. Each datum BY PROGRAM (the guide's laid-datum.mjs) off the statement by which the dump's own 'gosem.cut.vars' lays the variable. In a bare row this is a premise. The card (YtdfefhoihpbldaaDoorCards.lean) ties it to the program's text. -/
def laid_catacomb_nums_steps {H : Type} : DataW H := .agg [.lit (.int .i64 32), .lit (.int .i64 16), .lit (.int .i64 8), .lit (.int .i64 4), .lit (.int .i64 2), .lit (.int .i64 1)]

/-- 'catacomblaw04.ChunkPacks': WHATEVER THE INPUT: true; the input reads as it did. -/
def chunkPacksSpec : ChangeSpec := { name := "chunkPacks", fn := fun _ => fun
  | [d] => { results := [.lit (.bool true)], args := [d] }
  | _ => none }
def chunkPacksRow : OpenClaim := { program := "ytdfefhoihpbldaadoor", sum := "ae009292daae4165aa90d7bddaf1473ed62383290feee0380c96b149739e112b", func := "catacomb/catacomblaw04.ChunkPacks", spec := "chunkPacks", named := ["catacomb/nums.steps"], apart := false, laid := [("catacomb/nums.steps", laid_catacomb_nums_steps)] }
def ChunkPacksSaid : Prop := chunkPacksRow.holds Tryd.pinned (OpenSpec.ofChange chunkPacksSpec)

/-- ITS FALSE NEIGHBOUR: 'it returns false'. Refute it at one input. -/
def chunkPacksWrong : ChangeSpec := { name := "chunkPacks", fn := fun _ => fun
  | [d] => { results := [.lit (.bool false)], args := [d] }
  | _ => none }
def ChunkPacksWrongFalsely : Prop := chunkPacksRow.holds Tryd.pinned (OpenSpec.ofChange chunkPacksWrong)

/-- 'catacomblaw04.ChunkUnpacks': WHATEVER THE INPUT: true; the input reads as it did. -/
def chunkUnpacksSpec : ChangeSpec := { name := "chunkUnpacks", fn := fun _ => fun
  | [d] => { results := [.lit (.bool true)], args := [d] }
  | _ => none }
def chunkUnpacksRow : OpenClaim := { program := "ytdfefhoihpbldaadoor", sum := "ae009292daae4165aa90d7bddaf1473ed62383290feee0380c96b149739e112b", func := "catacomb/catacomblaw04.ChunkUnpacks", spec := "chunkUnpacks", named := ["catacomb/nums.steps"], apart := false, laid := [("catacomb/nums.steps", laid_catacomb_nums_steps)] }
def ChunkUnpacksSaid : Prop := chunkUnpacksRow.holds Tryd.pinned (OpenSpec.ofChange chunkUnpacksSpec)

/-- ITS FALSE NEIGHBOUR: 'it returns false'. Refute it at one input. -/
def chunkUnpacksWrong : ChangeSpec := { name := "chunkUnpacks", fn := fun _ => fun
  | [d] => { results := [.lit (.bool false)], args := [d] }
  | _ => none }
def ChunkUnpacksWrongFalsely : Prop := chunkUnpacksRow.holds Tryd.pinned (OpenSpec.ofChange chunkUnpacksWrong)

/-- 'catacomblaw04.ChunkCuts': WHATEVER THE INPUT: true; the input reads as it did. -/
def chunkCutsSpec : ChangeSpec := { name := "chunkCuts", fn := fun _ => fun
  | [d1, d2] => { results := [.lit (.bool true)], args := [d1, d2] }
  | _ => none }
def chunkCutsRow : OpenClaim := { program := "ytdfefhoihpbldaadoor", sum := "ae009292daae4165aa90d7bddaf1473ed62383290feee0380c96b149739e112b", func := "catacomb/catacomblaw04.ChunkCuts", spec := "chunkCuts", named := ["catacomb/nums.steps"], apart := false, laid := [("catacomb/nums.steps", laid_catacomb_nums_steps)] }
def ChunkCutsSaid : Prop := chunkCutsRow.holds Tryd.pinned (OpenSpec.ofChange chunkCutsSpec)

/-- ITS FALSE NEIGHBOUR: 'it returns false'. Refute it at one input. -/
def chunkCutsWrong : ChangeSpec := { name := "chunkCuts", fn := fun _ => fun
  | [d1, d2] => { results := [.lit (.bool false)], args := [d1, d2] }
  | _ => none }
def ChunkCutsWrongFalsely : Prop := chunkCutsRow.holds Tryd.pinned (OpenSpec.ofChange chunkCutsWrong)

/-- 'catacomblaw04.ChunkMerges': WHATEVER THE INPUT: true; the input reads as it did. -/
def chunkMergesSpec : ChangeSpec := { name := "chunkMerges", fn := fun _ => fun
  | [d1, d2] => { results := [.lit (.bool true)], args := [d1, d2] }
  | _ => none }
def chunkMergesRow : OpenClaim := { program := "ytdfefhoihpbldaadoor", sum := "ae009292daae4165aa90d7bddaf1473ed62383290feee0380c96b149739e112b", func := "catacomb/catacomblaw04.ChunkMerges", spec := "chunkMerges", named := ["catacomb/nums.steps"], apart := false, laid := [("catacomb/nums.steps", laid_catacomb_nums_steps)] }
def ChunkMergesSaid : Prop := chunkMergesRow.holds Tryd.pinned (OpenSpec.ofChange chunkMergesSpec)

/-- ITS FALSE NEIGHBOUR: 'it returns false'. Refute it at one input. -/
def chunkMergesWrong : ChangeSpec := { name := "chunkMerges", fn := fun _ => fun
  | [d1, d2] => { results := [.lit (.bool false)], args := [d1, d2] }
  | _ => none }
def ChunkMergesWrongFalsely : Prop := chunkMergesRow.holds Tryd.pinned (OpenSpec.ofChange chunkMergesWrong)

/- THE SECOND FORM. 'bulk': how many values and letters a reading holds, each counted each time it is reached (what is shared counts as often as it is met; a slice's spare places count too). A statement '..UptoSaid' is the law's where the arguments, and the package variables that the reading takes, are together of bulk at most 1048576: NARROWER than '..Said'. Prove '..Said' where nothing that the law and all that it calls make is longer than what came in: it says more and counts as full. Else prove '..UptoSaid'. A law counts once. -/
mutual
def uptoBulk {H : Type} : DataW H → Nat
  | .lit (.string bytes) => bytes.length + 1
  | .lit _ => 1
  | .nil => 1
  | .ptr d => uptoBulk d + 1
  | .slice elems spare => uptoBulkAll elems + uptoBulkAll spare + 1
  | .agg parts => uptoBulkAll parts + 1
  | .iface _ d => uptoBulk d + 1
  | .map entries => uptoBulkEntries entries + 1
  | .held _ => 1
def uptoBulkAll {H : Type} : List (DataW H) → Nat
  | [] => 0
  | d :: r => uptoBulk d + uptoBulkAll r
def uptoBulkEntries {H : Type} : List (Lit × DataW H) → Nat
  | [] => 0
  | x :: r => uptoBulkEntry x + uptoBulkEntries r
def uptoBulkEntry {H : Type} : Lit × DataW H → Nat
  | (.string bytes, d) => bytes.length + uptoBulk d + 1
  | (_, d) => uptoBulk d + 1
 end
def uptoSmall : (H : Type) → List (DataW H) → Bool := fun _ ds => decide (uptoBulkAll ds ≤ 1048576)
def OpenSpec.upto (s : _root_.Go.ChangeSpec) : _root_.Go.OpenSpec := { _root_.Go.OpenSpec.ofChange s with cond := some uptoSmall }

/-- 'catacomblaw04.ChunkPacks', WHERE WHAT IT READS IS OF BULK AT MOST 1048576: true; the input reads as it did. -/
def chunkPacksUptoRow : OpenClaim := { program := "ytdfefhoihpbldaadoor", sum := "ae009292daae4165aa90d7bddaf1473ed62383290feee0380c96b149739e112b", func := "catacomb/catacomblaw04.ChunkPacks", spec := "chunkPacks", named := ["catacomb/nums.steps"], apart := false, laid := [("catacomb/nums.steps", laid_catacomb_nums_steps)], narrowed := true }
def ChunkPacksUptoSaid : Prop := chunkPacksUptoRow.holds Tryd.pinned (OpenSpec.upto chunkPacksSpec)

/-- 'catacomblaw04.ChunkUnpacks', WHERE WHAT IT READS IS OF BULK AT MOST 1048576: true; the input reads as it did. -/
def chunkUnpacksUptoRow : OpenClaim := { program := "ytdfefhoihpbldaadoor", sum := "ae009292daae4165aa90d7bddaf1473ed62383290feee0380c96b149739e112b", func := "catacomb/catacomblaw04.ChunkUnpacks", spec := "chunkUnpacks", named := ["catacomb/nums.steps"], apart := false, laid := [("catacomb/nums.steps", laid_catacomb_nums_steps)], narrowed := true }
def ChunkUnpacksUptoSaid : Prop := chunkUnpacksUptoRow.holds Tryd.pinned (OpenSpec.upto chunkUnpacksSpec)

/-- 'catacomblaw04.ChunkCuts', WHERE WHAT IT READS IS OF BULK AT MOST 1048576: true; the input reads as it did. -/
def chunkCutsUptoRow : OpenClaim := { program := "ytdfefhoihpbldaadoor", sum := "ae009292daae4165aa90d7bddaf1473ed62383290feee0380c96b149739e112b", func := "catacomb/catacomblaw04.ChunkCuts", spec := "chunkCuts", named := ["catacomb/nums.steps"], apart := false, laid := [("catacomb/nums.steps", laid_catacomb_nums_steps)], narrowed := true }
def ChunkCutsUptoSaid : Prop := chunkCutsUptoRow.holds Tryd.pinned (OpenSpec.upto chunkCutsSpec)

/-- 'catacomblaw04.ChunkMerges', WHERE WHAT IT READS IS OF BULK AT MOST 1048576: true; the input reads as it did. -/
def chunkMergesUptoRow : OpenClaim := { program := "ytdfefhoihpbldaadoor", sum := "ae009292daae4165aa90d7bddaf1473ed62383290feee0380c96b149739e112b", func := "catacomb/catacomblaw04.ChunkMerges", spec := "chunkMerges", named := ["catacomb/nums.steps"], apart := false, laid := [("catacomb/nums.steps", laid_catacomb_nums_steps)], narrowed := true }
def ChunkMergesUptoSaid : Prop := chunkMergesUptoRow.holds Tryd.pinned (OpenSpec.upto chunkMergesSpec)

end Rows
end Go.Proofs.YtdfefhoihpbldaaDoor
