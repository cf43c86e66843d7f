/-
  No cell of these rows narrows 'for every input' (looked for: loops, veiled, ifaces, maps, wideKeys, modest, calm, conditions, laid).
  DERIVED. THE GIVEN ROWS OF THIS SEAT. 4 by the template 'for every input the law returns true; each argument reads behind the call as it read before'; 0 by the template 'total and deterministic' (their statements: YtfbipeppnffmeaaTotals.lean).
  GIVEN WITH THE SEED: the statements are not yours to turn. If you find one false, say at which input.
  Laid BY PROGRAM, IN A SANDBOX (cutbox-rows.mjs): the forced cells as the released guide's own fill.sh prints them over the translation 1b88a3b4903ed5c4… (all of the seat's roots in one cut). By AI agents, Wed Nov 11 2026. No macro, syntax, notation, axiom, sorry.
-/
import Derived.Test.YtfbipeppnffmeaaChecked
import GoSem.Claim
import GoSem.ClaimJoined
import GoSem.ClaimMapViews
import Derived.JoinedTies
import Derived.KernelRfl
namespace Go.Proofs.Ytfbipeppnffmeaa
/- THE CELL 'sum', in the pinned program and in every row, IS THE sha256 OF THE DUMP (.gsa) THAT YtfbipeppnffmeaaProg.lean LOADS. Nothing in Lean hashes anything: it is a label: what it is worth is what the hold of that sum in a sandbox is worth. -/
noncomputable def Try.pinned : Pinned := { name := "ytfbipeppnffmeaa", sum := "1b88a3b4903ed5c42caccd89077a53c53b2f80f801413b3638f8f1fcb61c206d", checked := Try.checked }
namespace Rows
def none {H : Type} : Left H := { results := [], args := [] }

/-- 'catacomblaw13.WindowOf': WHATEVER THE INPUT: true; the input reads as it did. -/
def windowOfSpec : ChangeSpec := { name := "windowOf", fn := fun _ => fun
  | [d1, d2, d3] => { results := [.lit (.bool true)], args := [d1, d2, d3] }
  | _ => none }
def windowOfRow : OpenClaim := { program := "ytfbipeppnffmeaa", sum := "1b88a3b4903ed5c42caccd89077a53c53b2f80f801413b3638f8f1fcb61c206d", func := "catacomb/catacomblaw13.WindowOf", spec := "windowOf", apart := false }
def WindowOfSaid : Prop := windowOfRow.holds Try.pinned (OpenSpec.ofChange windowOfSpec)

/-- ITS FALSE NEIGHBOUR: 'it returns false'. Refute it at one input. -/
def windowOfWrong : ChangeSpec := { name := "windowOf", fn := fun _ => fun
  | [d1, d2, d3] => { results := [.lit (.bool false)], args := [d1, d2, d3] }
  | _ => none }
def WindowOfWrongFalsely : Prop := windowOfRow.holds Try.pinned (OpenSpec.ofChange windowOfWrong)

/-- 'catacomblaw13.WindowRanges': WHATEVER THE INPUT: true; the input reads as it did. -/
def windowRangesSpec : ChangeSpec := { name := "windowRanges", fn := fun _ => fun
  | [d1, d2, d3] => { results := [.lit (.bool true)], args := [d1, d2, d3] }
  | _ => none }
def windowRangesRow : OpenClaim := { program := "ytfbipeppnffmeaa", sum := "1b88a3b4903ed5c42caccd89077a53c53b2f80f801413b3638f8f1fcb61c206d", func := "catacomb/catacomblaw13.WindowRanges", spec := "windowRanges", unfollowed := true, recurses := true, apart := false }
def WindowRangesSaid : Prop := windowRangesRow.holds Try.pinned (OpenSpec.ofChange windowRangesSpec)

/-- ITS FALSE NEIGHBOUR: 'it returns false'. Refute it at one input. -/
def windowRangesWrong : ChangeSpec := { name := "windowRanges", fn := fun _ => fun
  | [d1, d2, d3] => { results := [.lit (.bool false)], args := [d1, d2, d3] }
  | _ => none }
def WindowRangesWrongFalsely : Prop := windowRangesRow.holds Try.pinned (OpenSpec.ofChange windowRangesWrong)

/-- 'catacomblaw13.WindowCuts': WHATEVER THE INPUT: true; the input reads as it did. -/
def windowCutsSpec : ChangeSpec := { name := "windowCuts", fn := fun _ => fun
  | [d1, d2, d3] => { results := [.lit (.bool true)], args := [d1, d2, d3] }
  | _ => none }
def windowCutsRow : OpenClaim := { program := "ytfbipeppnffmeaa", sum := "1b88a3b4903ed5c42caccd89077a53c53b2f80f801413b3638f8f1fcb61c206d", func := "catacomb/catacomblaw13.WindowCuts", spec := "windowCuts", apart := false }
def WindowCutsSaid : Prop := windowCutsRow.holds Try.pinned (OpenSpec.ofChange windowCutsSpec)

/-- ITS FALSE NEIGHBOUR: 'it returns false'. Refute it at one input. -/
def windowCutsWrong : ChangeSpec := { name := "windowCuts", fn := fun _ => fun
  | [d1, d2, d3] => { results := [.lit (.bool false)], args := [d1, d2, d3] }
  | _ => none }
def WindowCutsWrongFalsely : Prop := windowCutsRow.holds Try.pinned (OpenSpec.ofChange windowCutsWrong)

/-- 'catacomblaw13.WindowNests': WHATEVER THE INPUT: true; the input reads as it did. -/
def windowNestsSpec : ChangeSpec := { name := "windowNests", fn := fun _ => fun
  | [d] => { results := [.lit (.bool true)], args := [d] }
  | _ => none }
def windowNestsRow : OpenClaim := { program := "ytfbipeppnffmeaa", sum := "1b88a3b4903ed5c42caccd89077a53c53b2f80f801413b3638f8f1fcb61c206d", func := "catacomb/catacomblaw13.WindowNests", spec := "windowNests", unfollowed := true, recurses := true, apart := false }
def WindowNestsSaid : Prop := windowNestsRow.holds Try.pinned (OpenSpec.ofChange windowNestsSpec)

/-- ITS FALSE NEIGHBOUR: 'it returns false'. Refute it at one input. -/
def windowNestsWrong : ChangeSpec := { name := "windowNests", fn := fun _ => fun
  | [d] => { results := [.lit (.bool false)], args := [d] }
  | _ => none }
def WindowNestsWrongFalsely : Prop := windowNestsRow.holds Try.pinned (OpenSpec.ofChange windowNestsWrong)

/- THE SECOND FORM. 'bulk': how many values and letters a reading holds, each counted each time it is reached (what is shared counts as often as it is met; a slice's spare places count too). A statement '..UptoSaid' is the law's where the arguments, and the package variables that the reading takes, are together of bulk at most 1048576: NARROWER than '..Said'. Prove '..Said' where nothing that the law and all that it calls make is longer than what came in: it says more and counts as full. Else prove '..UptoSaid'. A law counts once. -/
mutual
def uptoBulk {H : Type} : DataW H → Nat
  | .lit (.string bytes) => bytes.length + 1
  | .lit _ => 1
  | .nil => 1
  | .ptr d => uptoBulk d + 1
  | .slice elems spare => uptoBulkAll elems + uptoBulkAll spare + 1
  | .agg parts => uptoBulkAll parts + 1
  | .iface _ d => uptoBulk d + 1
  | .map entries => uptoBulkEntries entries + 1
  | .held _ => 1
def uptoBulkAll {H : Type} : List (DataW H) → Nat
  | [] => 0
  | d :: r => uptoBulk d + uptoBulkAll r
def uptoBulkEntries {H : Type} : List (Lit × DataW H) → Nat
  | [] => 0
  | x :: r => uptoBulkEntry x + uptoBulkEntries r
def uptoBulkEntry {H : Type} : Lit × DataW H → Nat
  | (.string bytes, d) => bytes.length + uptoBulk d + 1
  | (_, d) => uptoBulk d + 1
 end
def uptoSmall : (H : Type) → List (DataW H) → Bool := fun _ ds => decide (uptoBulkAll ds ≤ 1048576)
def OpenSpec.upto (s : _root_.Go.ChangeSpec) : _root_.Go.OpenSpec := { _root_.Go.OpenSpec.ofChange s with cond := some uptoSmall }

/-- 'catacomblaw13.WindowOf', WHERE WHAT IT READS IS OF BULK AT MOST 1048576: true; the input reads as it did. -/
def windowOfUptoRow : OpenClaim := { program := "ytfbipeppnffmeaa", sum := "1b88a3b4903ed5c42caccd89077a53c53b2f80f801413b3638f8f1fcb61c206d", func := "catacomb/catacomblaw13.WindowOf", spec := "windowOf", apart := false, narrowed := true }
def WindowOfUptoSaid : Prop := windowOfUptoRow.holds Try.pinned (OpenSpec.upto windowOfSpec)

/-- 'catacomblaw13.WindowRanges', WHERE WHAT IT READS IS OF BULK AT MOST 1048576: true; the input reads as it did. -/
def windowRangesUptoRow : OpenClaim := { program := "ytfbipeppnffmeaa", sum := "1b88a3b4903ed5c42caccd89077a53c53b2f80f801413b3638f8f1fcb61c206d", func := "catacomb/catacomblaw13.WindowRanges", spec := "windowRanges", unfollowed := true, recurses := true, apart := false, narrowed := true }
def WindowRangesUptoSaid : Prop := windowRangesUptoRow.holds Try.pinned (OpenSpec.upto windowRangesSpec)

/-- 'catacomblaw13.WindowCuts', WHERE WHAT IT READS IS OF BULK AT MOST 1048576: true; the input reads as it did. -/
def windowCutsUptoRow : OpenClaim := { program := "ytfbipeppnffmeaa", sum := "1b88a3b4903ed5c42caccd89077a53c53b2f80f801413b3638f8f1fcb61c206d", func := "catacomb/catacomblaw13.WindowCuts", spec := "windowCuts", apart := false, narrowed := true }
def WindowCutsUptoSaid : Prop := windowCutsUptoRow.holds Try.pinned (OpenSpec.upto windowCutsSpec)

/-- 'catacomblaw13.WindowNests', WHERE WHAT IT READS IS OF BULK AT MOST 1048576: true; the input reads as it did. -/
def windowNestsUptoRow : OpenClaim := { program := "ytfbipeppnffmeaa", sum := "1b88a3b4903ed5c42caccd89077a53c53b2f80f801413b3638f8f1fcb61c206d", func := "catacomb/catacomblaw13.WindowNests", spec := "windowNests", unfollowed := true, recurses := true, apart := false, narrowed := true }
def WindowNestsUptoSaid : Prop := windowNestsUptoRow.holds Try.pinned (OpenSpec.upto windowNestsSpec)

end Rows
end Go.Proofs.Ytfbipeppnffmeaa
