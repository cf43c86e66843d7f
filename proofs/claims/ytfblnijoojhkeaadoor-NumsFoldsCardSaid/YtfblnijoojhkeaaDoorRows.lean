/-
  NARROWER THAN 'FOR EVERY INPUT', by the rows' own cells (each row's printed sentence says how): NumsAdds: laid · NumsMuls: laid · NumsShifts: laid · NumsNarrows: laid · NumsFolds: laid · NumsRise: laid.
  DERIVED. THE GIVEN ROWS OF THIS SEAT. 6 by the template 'for every input the law returns true; each argument reads behind the call as it read before'; 0 by the template 'total and deterministic' (their statements: YtfblnijoojhkeaaDoorTotals.lean).
  GIVEN WITH THE SEED: the statements are not yours to turn. If you find one false, say at which input.
  Laid BY PROGRAM, IN A SANDBOX (cutbox-rows.mjs): the forced cells as the released guide's own fill.sh prints them over the translation 703a46447bc4a8a0… (all of the seat's roots in one cut). By AI agents, Wed Nov 11 2026. No macro, syntax, notation, axiom, sorry.
-/
import Derived.Test.YtfblnijoojhkeaaDoorChecked
import GoSem.Claim
import GoSem.ClaimJoined
import GoSem.ClaimMapViews
import Derived.JoinedTies
import Derived.KernelRfl
namespace Go.Proofs.YtfblnijoojhkeaaDoor
/- THE CELL 'sum', in the pinned program and in every row, IS THE sha256 OF THE DUMP (.gsa) THAT YtfblnijoojhkeaaDoorProg.lean LOADS. Nothing in Lean hashes anything: it is a label: what it is worth is what the hold of that sum in a sandbox is worth. -/
noncomputable def Tryd.pinned : Pinned := { name := "ytfblnijoojhkeaadoor", sum := "703a46447bc4a8a0daf324bf2dd3c0fe2a7d593100e53a14ef8926ff60e77118", checked := Tryd.checked }
namespace Rows
def none {H : Type} : Left H := { results := [], args := [] }

/- WHAT THE LISTED PACKAGE-LEVEL VARIABLES READ AS WHEN THE CALL BEGINS. Each datum BY PROGRAM (the guide's laid-datum.mjs) off the statement by which the dump's own 'gosem.cut.vars' lays the variable. In a bare row this is a premise. The card (YtfblnijoojhkeaaDoorCards.lean) ties it to the program's text. -/
def laid_catacomb_nums_steps {H : Type} : DataW H := .agg [.lit (.int .i64 32), .lit (.int .i64 16), .lit (.int .i64 8), .lit (.int .i64 4), .lit (.int .i64 2), .lit (.int .i64 1)]

/-- 'catacomblaw01.NumsAdds': WHATEVER THE INPUT: true; the input reads as it did. -/
def numsAddsSpec : ChangeSpec := { name := "numsAdds", fn := fun _ => fun
  | [d1, d2] => { results := [.lit (.bool true)], args := [d1, d2] }
  | _ => none }
def numsAddsRow : OpenClaim := { program := "ytfblnijoojhkeaadoor", sum := "703a46447bc4a8a0daf324bf2dd3c0fe2a7d593100e53a14ef8926ff60e77118", func := "catacomb/catacomblaw01.NumsAdds", spec := "numsAdds", named := ["catacomb/nums.steps"], apart := false, laid := [("catacomb/nums.steps", laid_catacomb_nums_steps)] }
def NumsAddsSaid : Prop := numsAddsRow.holds Tryd.pinned (OpenSpec.ofChange numsAddsSpec)

/-- ITS FALSE NEIGHBOUR: 'it returns false'. Refute it at one input. -/
def numsAddsWrong : ChangeSpec := { name := "numsAdds", fn := fun _ => fun
  | [d1, d2] => { results := [.lit (.bool false)], args := [d1, d2] }
  | _ => none }
def NumsAddsWrongFalsely : Prop := numsAddsRow.holds Tryd.pinned (OpenSpec.ofChange numsAddsWrong)

/-- 'catacomblaw01.NumsMuls': WHATEVER THE INPUT: true; the input reads as it did. -/
def numsMulsSpec : ChangeSpec := { name := "numsMuls", fn := fun _ => fun
  | [d1, d2] => { results := [.lit (.bool true)], args := [d1, d2] }
  | _ => none }
def numsMulsRow : OpenClaim := { program := "ytfblnijoojhkeaadoor", sum := "703a46447bc4a8a0daf324bf2dd3c0fe2a7d593100e53a14ef8926ff60e77118", func := "catacomb/catacomblaw01.NumsMuls", spec := "numsMuls", named := ["catacomb/nums.steps"], apart := false, laid := [("catacomb/nums.steps", laid_catacomb_nums_steps)] }
def NumsMulsSaid : Prop := numsMulsRow.holds Tryd.pinned (OpenSpec.ofChange numsMulsSpec)

/-- ITS FALSE NEIGHBOUR: 'it returns false'. Refute it at one input. -/
def numsMulsWrong : ChangeSpec := { name := "numsMuls", fn := fun _ => fun
  | [d1, d2] => { results := [.lit (.bool false)], args := [d1, d2] }
  | _ => none }
def NumsMulsWrongFalsely : Prop := numsMulsRow.holds Tryd.pinned (OpenSpec.ofChange numsMulsWrong)

/-- 'catacomblaw01.NumsShifts': WHATEVER THE INPUT: true; the input reads as it did. -/
def numsShiftsSpec : ChangeSpec := { name := "numsShifts", fn := fun _ => fun
  | [d1, d2] => { results := [.lit (.bool true)], args := [d1, d2] }
  | _ => none }
def numsShiftsRow : OpenClaim := { program := "ytfblnijoojhkeaadoor", sum := "703a46447bc4a8a0daf324bf2dd3c0fe2a7d593100e53a14ef8926ff60e77118", func := "catacomb/catacomblaw01.NumsShifts", spec := "numsShifts", named := ["catacomb/nums.steps"], apart := false, laid := [("catacomb/nums.steps", laid_catacomb_nums_steps)] }
def NumsShiftsSaid : Prop := numsShiftsRow.holds Tryd.pinned (OpenSpec.ofChange numsShiftsSpec)

/-- ITS FALSE NEIGHBOUR: 'it returns false'. Refute it at one input. -/
def numsShiftsWrong : ChangeSpec := { name := "numsShifts", fn := fun _ => fun
  | [d1, d2] => { results := [.lit (.bool false)], args := [d1, d2] }
  | _ => none }
def NumsShiftsWrongFalsely : Prop := numsShiftsRow.holds Tryd.pinned (OpenSpec.ofChange numsShiftsWrong)

/-- 'catacomblaw01.NumsNarrows': WHATEVER THE INPUT: true; the input reads as it did. -/
def numsNarrowsSpec : ChangeSpec := { name := "numsNarrows", fn := fun _ => fun
  | [d] => { results := [.lit (.bool true)], args := [d] }
  | _ => none }
def numsNarrowsRow : OpenClaim := { program := "ytfblnijoojhkeaadoor", sum := "703a46447bc4a8a0daf324bf2dd3c0fe2a7d593100e53a14ef8926ff60e77118", func := "catacomb/catacomblaw01.NumsNarrows", spec := "numsNarrows", unfollowed := true, recurses := true, named := ["catacomb/nums.steps"], apart := false, laid := [("catacomb/nums.steps", laid_catacomb_nums_steps)] }
def NumsNarrowsSaid : Prop := numsNarrowsRow.holds Tryd.pinned (OpenSpec.ofChange numsNarrowsSpec)

/-- ITS FALSE NEIGHBOUR: 'it returns false'. Refute it at one input. -/
def numsNarrowsWrong : ChangeSpec := { name := "numsNarrows", fn := fun _ => fun
  | [d] => { results := [.lit (.bool false)], args := [d] }
  | _ => none }
def NumsNarrowsWrongFalsely : Prop := numsNarrowsRow.holds Tryd.pinned (OpenSpec.ofChange numsNarrowsWrong)

/-- 'catacomblaw01.NumsFolds': WHATEVER THE INPUT: true; the input reads as it did. -/
def numsFoldsSpec : ChangeSpec := { name := "numsFolds", fn := fun _ => fun
  | [d1, d2] => { results := [.lit (.bool true)], args := [d1, d2] }
  | _ => none }
def numsFoldsRow : OpenClaim := { program := "ytfblnijoojhkeaadoor", sum := "703a46447bc4a8a0daf324bf2dd3c0fe2a7d593100e53a14ef8926ff60e77118", func := "catacomb/catacomblaw01.NumsFolds", spec := "numsFolds", named := ["catacomb/nums.steps"], apart := false, laid := [("catacomb/nums.steps", laid_catacomb_nums_steps)] }
def NumsFoldsSaid : Prop := numsFoldsRow.holds Tryd.pinned (OpenSpec.ofChange numsFoldsSpec)

/-- ITS FALSE NEIGHBOUR: 'it returns false'. Refute it at one input. -/
def numsFoldsWrong : ChangeSpec := { name := "numsFolds", fn := fun _ => fun
  | [d1, d2] => { results := [.lit (.bool false)], args := [d1, d2] }
  | _ => none }
def NumsFoldsWrongFalsely : Prop := numsFoldsRow.holds Tryd.pinned (OpenSpec.ofChange numsFoldsWrong)

/-- 'catacomblaw01.NumsRise': WHATEVER THE INPUT: true; the input reads as it did. -/
def numsRiseSpec : ChangeSpec := { name := "numsRise", fn := fun _ => fun
  | [d1, d2, d3] => { results := [.lit (.bool true)], args := [d1, d2, d3] }
  | _ => none }
def numsRiseRow : OpenClaim := { program := "ytfblnijoojhkeaadoor", sum := "703a46447bc4a8a0daf324bf2dd3c0fe2a7d593100e53a14ef8926ff60e77118", func := "catacomb/catacomblaw01.NumsRise", spec := "numsRise", named := ["catacomb/nums.steps"], apart := false, laid := [("catacomb/nums.steps", laid_catacomb_nums_steps)] }
def NumsRiseSaid : Prop := numsRiseRow.holds Tryd.pinned (OpenSpec.ofChange numsRiseSpec)

/-- ITS FALSE NEIGHBOUR: 'it returns false'. Refute it at one input. -/
def numsRiseWrong : ChangeSpec := { name := "numsRise", fn := fun _ => fun
  | [d1, d2, d3] => { results := [.lit (.bool false)], args := [d1, d2, d3] }
  | _ => none }
def NumsRiseWrongFalsely : Prop := numsRiseRow.holds Tryd.pinned (OpenSpec.ofChange numsRiseWrong)

/- THE SECOND FORM. 'bulk': how many values and letters a reading holds, each counted each time it is reached (what is shared counts as often as it is met; a slice's spare places count too). A statement '..UptoSaid' is the law's where the arguments, and the package variables that the reading takes, are together of bulk at most 1048576: NARROWER than '..Said'. Prove '..Said' where nothing that the law and all that it calls make is longer than what came in: it says more and counts as full. Else prove '..UptoSaid'. A law counts once. -/
mutual
def uptoBulk {H : Type} : DataW H → Nat
  | .lit (.string bytes) => bytes.length + 1
  | .lit _ => 1
  | .nil => 1
  | .ptr d => uptoBulk d + 1
  | .slice elems spare => uptoBulkAll elems + uptoBulkAll spare + 1
  | .agg parts => uptoBulkAll parts + 1
  | .iface _ d => uptoBulk d + 1
  | .map entries => uptoBulkEntries entries + 1
  | .held _ => 1
def uptoBulkAll {H : Type} : List (DataW H) → Nat
  | [] => 0
  | d :: r => uptoBulk d + uptoBulkAll r
def uptoBulkEntries {H : Type} : List (Lit × DataW H) → Nat
  | [] => 0
  | x :: r => uptoBulkEntry x + uptoBulkEntries r
def uptoBulkEntry {H : Type} : Lit × DataW H → Nat
  | (.string bytes, d) => bytes.length + uptoBulk d + 1
  | (_, d) => uptoBulk d + 1
 end
def uptoSmall : (H : Type) → List (DataW H) → Bool := fun _ ds => decide (uptoBulkAll ds ≤ 1048576)
def OpenSpec.upto (s : _root_.Go.ChangeSpec) : _root_.Go.OpenSpec := { _root_.Go.OpenSpec.ofChange s with cond := some uptoSmall }

/-- 'catacomblaw01.NumsAdds', WHERE WHAT IT READS IS OF BULK AT MOST 1048576: true; the input reads as it did. -/
def numsAddsUptoRow : OpenClaim := { program := "ytfblnijoojhkeaadoor", sum := "703a46447bc4a8a0daf324bf2dd3c0fe2a7d593100e53a14ef8926ff60e77118", func := "catacomb/catacomblaw01.NumsAdds", spec := "numsAdds", named := ["catacomb/nums.steps"], apart := false, laid := [("catacomb/nums.steps", laid_catacomb_nums_steps)], narrowed := true }
def NumsAddsUptoSaid : Prop := numsAddsUptoRow.holds Tryd.pinned (OpenSpec.upto numsAddsSpec)

/-- 'catacomblaw01.NumsMuls', WHERE WHAT IT READS IS OF BULK AT MOST 1048576: true; the input reads as it did. -/
def numsMulsUptoRow : OpenClaim := { program := "ytfblnijoojhkeaadoor", sum := "703a46447bc4a8a0daf324bf2dd3c0fe2a7d593100e53a14ef8926ff60e77118", func := "catacomb/catacomblaw01.NumsMuls", spec := "numsMuls", named := ["catacomb/nums.steps"], apart := false, laid := [("catacomb/nums.steps", laid_catacomb_nums_steps)], narrowed := true }
def NumsMulsUptoSaid : Prop := numsMulsUptoRow.holds Tryd.pinned (OpenSpec.upto numsMulsSpec)

/-- 'catacomblaw01.NumsShifts', WHERE WHAT IT READS IS OF BULK AT MOST 1048576: true; the input reads as it did. -/
def numsShiftsUptoRow : OpenClaim := { program := "ytfblnijoojhkeaadoor", sum := "703a46447bc4a8a0daf324bf2dd3c0fe2a7d593100e53a14ef8926ff60e77118", func := "catacomb/catacomblaw01.NumsShifts", spec := "numsShifts", named := ["catacomb/nums.steps"], apart := false, laid := [("catacomb/nums.steps", laid_catacomb_nums_steps)], narrowed := true }
def NumsShiftsUptoSaid : Prop := numsShiftsUptoRow.holds Tryd.pinned (OpenSpec.upto numsShiftsSpec)

/-- 'catacomblaw01.NumsNarrows', WHERE WHAT IT READS IS OF BULK AT MOST 1048576: true; the input reads as it did. -/
def numsNarrowsUptoRow : OpenClaim := { program := "ytfblnijoojhkeaadoor", sum := "703a46447bc4a8a0daf324bf2dd3c0fe2a7d593100e53a14ef8926ff60e77118", func := "catacomb/catacomblaw01.NumsNarrows", spec := "numsNarrows", unfollowed := true, recurses := true, named := ["catacomb/nums.steps"], apart := false, laid := [("catacomb/nums.steps", laid_catacomb_nums_steps)], narrowed := true }
def NumsNarrowsUptoSaid : Prop := numsNarrowsUptoRow.holds Tryd.pinned (OpenSpec.upto numsNarrowsSpec)

/-- 'catacomblaw01.NumsFolds', WHERE WHAT IT READS IS OF BULK AT MOST 1048576: true; the input reads as it did. -/
def numsFoldsUptoRow : OpenClaim := { program := "ytfblnijoojhkeaadoor", sum := "703a46447bc4a8a0daf324bf2dd3c0fe2a7d593100e53a14ef8926ff60e77118", func := "catacomb/catacomblaw01.NumsFolds", spec := "numsFolds", named := ["catacomb/nums.steps"], apart := false, laid := [("catacomb/nums.steps", laid_catacomb_nums_steps)], narrowed := true }
def NumsFoldsUptoSaid : Prop := numsFoldsUptoRow.holds Tryd.pinned (OpenSpec.upto numsFoldsSpec)

/-- 'catacomblaw01.NumsRise', WHERE WHAT IT READS IS OF BULK AT MOST 1048576: true; the input reads as it did. -/
def numsRiseUptoRow : OpenClaim := { program := "ytfblnijoojhkeaadoor", sum := "703a46447bc4a8a0daf324bf2dd3c0fe2a7d593100e53a14ef8926ff60e77118", func := "catacomb/catacomblaw01.NumsRise", spec := "numsRise", named := ["catacomb/nums.steps"], apart := false, laid := [("catacomb/nums.steps", laid_catacomb_nums_steps)], narrowed := true }
def NumsRiseUptoSaid : Prop := numsRiseUptoRow.holds Tryd.pinned (OpenSpec.upto numsRiseSpec)

end Rows
end Go.Proofs.YtfblnijoojhkeaaDoor
