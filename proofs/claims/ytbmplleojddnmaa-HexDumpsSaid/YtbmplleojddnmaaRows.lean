/-
  No cell of these rows narrows 'for every input' (looked for: loops, veiled, ifaces, maps, wideKeys, modest, calm, conditions, laid).
  DERIVED. THE GIVEN ROWS OF THIS SEAT. 3 by the template 'for every input the law returns true; each argument reads behind the call as it read before'; 0 by the template 'total and deterministic' (their statements: YtbmplleojddnmaaTotals.lean).
  GIVEN WITH THE SEED: the statements are not yours to turn. If you find one false, say at which input.
  Laid BY PROGRAM, IN A SANDBOX (cutbox-rows.mjs): the forced cells as the released guide's own fill.sh prints them over the translation 66d2e2907ab1e5fc… (all of the seat's roots in one cut). By AI agents, Wed Nov 11 2026. No macro, syntax, notation, axiom, sorry.
-/
import Derived.Test.YtbmplleojddnmaaChecked
import GoSem.Claim
import GoSem.ClaimJoined
import GoSem.ClaimMapViews
import Derived.JoinedTies
import Derived.KernelRfl
namespace Go.Proofs.Ytbmplleojddnmaa
/- THE CELL 'sum', in the pinned program and in every row, IS THE sha256 OF THE DUMP (.gsa) THAT YtbmplleojddnmaaProg.lean LOADS. Nothing in Lean hashes anything: it is a label: what it is worth is what the hold of that sum in a sandbox is worth. -/
noncomputable def Try.pinned : Pinned := { name := "ytbmplleojddnmaa", sum := "66d2e2907ab1e5fc6b558fe62ae329a28a7c87bc1311d269f90163815770cce1", checked := Try.checked }
namespace Rows
def none {H : Type} : Left H := { results := [], args := [] }

/-- 'catacomblaw07.HexTells': WHATEVER THE INPUT: true; the input reads as it did. -/
def hexTellsSpec : ChangeSpec := { name := "hexTells", fn := fun _ => fun
  | [d] => { results := [.lit (.bool true)], args := [d] }
  | _ => none }
def hexTellsRow : OpenClaim := { program := "ytbmplleojddnmaa", sum := "66d2e2907ab1e5fc6b558fe62ae329a28a7c87bc1311d269f90163815770cce1", func := "catacomb/catacomblaw07.HexTells", spec := "hexTells", apart := false }
def HexTellsSaid : Prop := hexTellsRow.holds Try.pinned (OpenSpec.ofChange hexTellsSpec)

/-- ITS FALSE NEIGHBOUR: 'it returns false'. Refute it at one input. -/
def hexTellsWrong : ChangeSpec := { name := "hexTells", fn := fun _ => fun
  | [d] => { results := [.lit (.bool false)], args := [d] }
  | _ => none }
def HexTellsWrongFalsely : Prop := hexTellsRow.holds Try.pinned (OpenSpec.ofChange hexTellsWrong)

/-- 'catacomblaw07.HexDumps': WHATEVER THE INPUT: true; the input reads as it did. -/
def hexDumpsSpec : ChangeSpec := { name := "hexDumps", fn := fun _ => fun
  | [d1, d2] => { results := [.lit (.bool true)], args := [d1, d2] }
  | _ => none }
def hexDumpsRow : OpenClaim := { program := "ytbmplleojddnmaa", sum := "66d2e2907ab1e5fc6b558fe62ae329a28a7c87bc1311d269f90163815770cce1", func := "catacomb/catacomblaw07.HexDumps", spec := "hexDumps", apart := false }
def HexDumpsSaid : Prop := hexDumpsRow.holds Try.pinned (OpenSpec.ofChange hexDumpsSpec)

/-- ITS FALSE NEIGHBOUR: 'it returns false'. Refute it at one input. -/
def hexDumpsWrong : ChangeSpec := { name := "hexDumps", fn := fun _ => fun
  | [d1, d2] => { results := [.lit (.bool false)], args := [d1, d2] }
  | _ => none }
def HexDumpsWrongFalsely : Prop := hexDumpsRow.holds Try.pinned (OpenSpec.ofChange hexDumpsWrong)

/-- 'catacomblaw07.HexOrders': WHATEVER THE INPUT: true; the input reads as it did. -/
def hexOrdersSpec : ChangeSpec := { name := "hexOrders", fn := fun _ => fun
  | [d1, d2] => { results := [.lit (.bool true)], args := [d1, d2] }
  | _ => none }
def hexOrdersRow : OpenClaim := { program := "ytbmplleojddnmaa", sum := "66d2e2907ab1e5fc6b558fe62ae329a28a7c87bc1311d269f90163815770cce1", func := "catacomb/catacomblaw07.HexOrders", spec := "hexOrders", apart := false }
def HexOrdersSaid : Prop := hexOrdersRow.holds Try.pinned (OpenSpec.ofChange hexOrdersSpec)

/-- ITS FALSE NEIGHBOUR: 'it returns false'. Refute it at one input. -/
def hexOrdersWrong : ChangeSpec := { name := "hexOrders", fn := fun _ => fun
  | [d1, d2] => { results := [.lit (.bool false)], args := [d1, d2] }
  | _ => none }
def HexOrdersWrongFalsely : Prop := hexOrdersRow.holds Try.pinned (OpenSpec.ofChange hexOrdersWrong)

/- THE SECOND FORM. 'bulk': how many values and letters a reading holds, each counted each time it is reached (what is shared counts as often as it is met; a slice's spare places count too). A statement '..UptoSaid' is the law's where the arguments, and the package variables that the reading takes, are together of bulk at most 1048576: NARROWER than '..Said'. Prove '..Said' where nothing that the law and all that it calls make is longer than what came in: it says more and counts as full. Else prove '..UptoSaid'. A law counts once. -/
mutual
def uptoBulk {H : Type} : DataW H → Nat
  | .lit (.string bytes) => bytes.length + 1
  | .lit _ => 1
  | .nil => 1
  | .ptr d => uptoBulk d + 1
  | .slice elems spare => uptoBulkAll elems + uptoBulkAll spare + 1
  | .agg parts => uptoBulkAll parts + 1
  | .iface _ d => uptoBulk d + 1
  | .map entries => uptoBulkEntries entries + 1
  | .held _ => 1
def uptoBulkAll {H : Type} : List (DataW H) → Nat
  | [] => 0
  | d :: r => uptoBulk d + uptoBulkAll r
def uptoBulkEntries {H : Type} : List (Lit × DataW H) → Nat
  | [] => 0
  | x :: r => uptoBulkEntry x + uptoBulkEntries r
def uptoBulkEntry {H : Type} : Lit × DataW H → Nat
  | (.string bytes, d) => bytes.length + uptoBulk d + 1
  | (_, d) => uptoBulk d + 1
 end
def uptoSmall : (H : Type) → List (DataW H) → Bool := fun _ ds => decide (uptoBulkAll ds ≤ 1048576)
def OpenSpec.upto (s : _root_.Go.ChangeSpec) : _root_.Go.OpenSpec := { _root_.Go.OpenSpec.ofChange s with cond := some uptoSmall }

/-- 'catacomblaw07.HexTells', WHERE WHAT IT READS IS OF BULK AT MOST 1048576: true; the input reads as it did. -/
def hexTellsUptoRow : OpenClaim := { program := "ytbmplleojddnmaa", sum := "66d2e2907ab1e5fc6b558fe62ae329a28a7c87bc1311d269f90163815770cce1", func := "catacomb/catacomblaw07.HexTells", spec := "hexTells", apart := false, narrowed := true }
def HexTellsUptoSaid : Prop := hexTellsUptoRow.holds Try.pinned (OpenSpec.upto hexTellsSpec)

/-- 'catacomblaw07.HexDumps', WHERE WHAT IT READS IS OF BULK AT MOST 1048576: true; the input reads as it did. -/
def hexDumpsUptoRow : OpenClaim := { program := "ytbmplleojddnmaa", sum := "66d2e2907ab1e5fc6b558fe62ae329a28a7c87bc1311d269f90163815770cce1", func := "catacomb/catacomblaw07.HexDumps", spec := "hexDumps", apart := false, narrowed := true }
def HexDumpsUptoSaid : Prop := hexDumpsUptoRow.holds Try.pinned (OpenSpec.upto hexDumpsSpec)

/-- 'catacomblaw07.HexOrders', WHERE WHAT IT READS IS OF BULK AT MOST 1048576: true; the input reads as it did. -/
def hexOrdersUptoRow : OpenClaim := { program := "ytbmplleojddnmaa", sum := "66d2e2907ab1e5fc6b558fe62ae329a28a7c87bc1311d269f90163815770cce1", func := "catacomb/catacomblaw07.HexOrders", spec := "hexOrders", apart := false, narrowed := true }
def HexOrdersUptoSaid : Prop := hexOrdersUptoRow.holds Try.pinned (OpenSpec.upto hexOrdersSpec)

end Rows
end Go.Proofs.Ytbmplleojddnmaa
