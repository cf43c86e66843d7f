/-
  No cell of these rows narrows 'for every input' (looked for: loops, veiled, ifaces, maps, wideKeys, modest, calm, conditions, laid).
  DERIVED. THE GIVEN ROWS OF THIS SEAT. 5 by the template 'for every input the law returns true; each argument reads behind the call as it read before'; 0 by the template 'total and deterministic' (their statements: YtdmlolagpbobeaaTotals.lean).
  GIVEN WITH THE SEED: the statements are not yours to turn. If you find one false, say at which input.
  Laid BY PROGRAM, IN A SANDBOX (cutbox-rows.mjs): the forced cells as the released guide's own fill.sh prints them over the translation bb12625b413ba2f1… (all of the seat's roots in one cut). By AI agents, Wed Nov 11 2026. No macro, syntax, notation, axiom, sorry.
-/
import Derived.Test.YtdmlolagpbobeaaChecked
import GoSem.Claim
import GoSem.ClaimJoined
import GoSem.ClaimMapViews
import Derived.JoinedTies
import Derived.KernelRfl
namespace Go.Proofs.Ytdmlolagpbobeaa
/- THE CELL 'sum', in the pinned program and in every row, IS THE sha256 OF THE DUMP (.gsa) THAT YtdmlolagpbobeaaProg.lean LOADS. Nothing in Lean hashes anything: it is a label: what it is worth is what the hold of that sum in a sandbox is worth. -/
noncomputable def Try.pinned : Pinned := { name := "ytdmlolagpbobeaa", sum := "bb12625b413ba2f110873d6b02a3b298b6614d73ceab385beccd42489449446d", checked := Try.checked }
namespace Rows
def none {H : Type} : Left H := { results := [], args := [] }

/-- 'catacomblaw15.RollOf': WHATEVER THE INPUT: true; the input reads as it did. -/
def rollOfSpec : ChangeSpec := { name := "rollOf", fn := fun _ => fun
  | [d1, d2, d3] => { results := [.lit (.bool true)], args := [d1, d2, d3] }
  | _ => none }
def rollOfRow : OpenClaim := { program := "ytdmlolagpbobeaa", sum := "bb12625b413ba2f110873d6b02a3b298b6614d73ceab385beccd42489449446d", func := "catacomb/catacomblaw15.RollOf", spec := "rollOf", apart := false }
def RollOfSaid : Prop := rollOfRow.holds Try.pinned (OpenSpec.ofChange rollOfSpec)

/-- ITS FALSE NEIGHBOUR: 'it returns false'. Refute it at one input. -/
def rollOfWrong : ChangeSpec := { name := "rollOf", fn := fun _ => fun
  | [d1, d2, d3] => { results := [.lit (.bool false)], args := [d1, d2, d3] }
  | _ => none }
def RollOfWrongFalsely : Prop := rollOfRow.holds Try.pinned (OpenSpec.ofChange rollOfWrong)

/-- 'catacomblaw15.RollJoins': WHATEVER THE INPUT: true; the input reads as it did. -/
def rollJoinsSpec : ChangeSpec := { name := "rollJoins", fn := fun _ => fun
  | [d1, d2] => { results := [.lit (.bool true)], args := [d1, d2] }
  | _ => none }
def rollJoinsRow : OpenClaim := { program := "ytdmlolagpbobeaa", sum := "bb12625b413ba2f110873d6b02a3b298b6614d73ceab385beccd42489449446d", func := "catacomb/catacomblaw15.RollJoins", spec := "rollJoins", apart := false }
def RollJoinsSaid : Prop := rollJoinsRow.holds Try.pinned (OpenSpec.ofChange rollJoinsSpec)

/-- ITS FALSE NEIGHBOUR: 'it returns false'. Refute it at one input. -/
def rollJoinsWrong : ChangeSpec := { name := "rollJoins", fn := fun _ => fun
  | [d1, d2] => { results := [.lit (.bool false)], args := [d1, d2] }
  | _ => none }
def RollJoinsWrongFalsely : Prop := rollJoinsRow.holds Try.pinned (OpenSpec.ofChange rollJoinsWrong)

/-- 'catacomblaw15.RollWindows': WHATEVER THE INPUT: true; the input reads as it did. -/
def rollWindowsSpec : ChangeSpec := { name := "rollWindows", fn := fun _ => fun
  | [d1, d2] => { results := [.lit (.bool true)], args := [d1, d2] }
  | _ => none }
def rollWindowsRow : OpenClaim := { program := "ytdmlolagpbobeaa", sum := "bb12625b413ba2f110873d6b02a3b298b6614d73ceab385beccd42489449446d", func := "catacomb/catacomblaw15.RollWindows", spec := "rollWindows", unfollowed := true, recurses := true, apart := false }
def RollWindowsSaid : Prop := rollWindowsRow.holds Try.pinned (OpenSpec.ofChange rollWindowsSpec)

/-- ITS FALSE NEIGHBOUR: 'it returns false'. Refute it at one input. -/
def rollWindowsWrong : ChangeSpec := { name := "rollWindows", fn := fun _ => fun
  | [d1, d2] => { results := [.lit (.bool false)], args := [d1, d2] }
  | _ => none }
def RollWindowsWrongFalsely : Prop := rollWindowsRow.holds Try.pinned (OpenSpec.ofChange rollWindowsWrong)

/-- 'catacomblaw15.RollTiers': WHATEVER THE INPUT: true; the input reads as it did. -/
def rollTiersSpec : ChangeSpec := { name := "rollTiers", fn := fun _ => fun
  | [d] => { results := [.lit (.bool true)], args := [d] }
  | _ => none }
def rollTiersRow : OpenClaim := { program := "ytdmlolagpbobeaa", sum := "bb12625b413ba2f110873d6b02a3b298b6614d73ceab385beccd42489449446d", func := "catacomb/catacomblaw15.RollTiers", spec := "rollTiers", unfollowed := true, recurses := true, apart := false }
def RollTiersSaid : Prop := rollTiersRow.holds Try.pinned (OpenSpec.ofChange rollTiersSpec)

/-- ITS FALSE NEIGHBOUR: 'it returns false'. Refute it at one input. -/
def rollTiersWrong : ChangeSpec := { name := "rollTiers", fn := fun _ => fun
  | [d] => { results := [.lit (.bool false)], args := [d] }
  | _ => none }
def RollTiersWrongFalsely : Prop := rollTiersRow.holds Try.pinned (OpenSpec.ofChange rollTiersWrong)

/-- 'catacomblaw15.RollMeans': WHATEVER THE INPUT: true; the input reads as it did. -/
def rollMeansSpec : ChangeSpec := { name := "rollMeans", fn := fun _ => fun
  | [d1, d2] => { results := [.lit (.bool true)], args := [d1, d2] }
  | _ => none }
def rollMeansRow : OpenClaim := { program := "ytdmlolagpbobeaa", sum := "bb12625b413ba2f110873d6b02a3b298b6614d73ceab385beccd42489449446d", func := "catacomb/catacomblaw15.RollMeans", spec := "rollMeans", apart := false }
def RollMeansSaid : Prop := rollMeansRow.holds Try.pinned (OpenSpec.ofChange rollMeansSpec)

/-- ITS FALSE NEIGHBOUR: 'it returns false'. Refute it at one input. -/
def rollMeansWrong : ChangeSpec := { name := "rollMeans", fn := fun _ => fun
  | [d1, d2] => { results := [.lit (.bool false)], args := [d1, d2] }
  | _ => none }
def RollMeansWrongFalsely : Prop := rollMeansRow.holds Try.pinned (OpenSpec.ofChange rollMeansWrong)

/- THE SECOND FORM. 'bulk': how many values and letters a reading holds, each counted each time it is reached (what is shared counts as often as it is met; a slice's spare places count too). A statement '..UptoSaid' is the law's where the arguments, and the package variables that the reading takes, are together of bulk at most 1048576: NARROWER than '..Said'. Prove '..Said' where nothing that the law and all that it calls make is longer than what came in: it says more and counts as full. Else prove '..UptoSaid'. A law counts once. -/
mutual
def uptoBulk {H : Type} : DataW H → Nat
  | .lit (.string bytes) => bytes.length + 1
  | .lit _ => 1
  | .nil => 1
  | .ptr d => uptoBulk d + 1
  | .slice elems spare => uptoBulkAll elems + uptoBulkAll spare + 1
  | .agg parts => uptoBulkAll parts + 1
  | .iface _ d => uptoBulk d + 1
  | .map entries => uptoBulkEntries entries + 1
  | .held _ => 1
def uptoBulkAll {H : Type} : List (DataW H) → Nat
  | [] => 0
  | d :: r => uptoBulk d + uptoBulkAll r
def uptoBulkEntries {H : Type} : List (Lit × DataW H) → Nat
  | [] => 0
  | x :: r => uptoBulkEntry x + uptoBulkEntries r
def uptoBulkEntry {H : Type} : Lit × DataW H → Nat
  | (.string bytes, d) => bytes.length + uptoBulk d + 1
  | (_, d) => uptoBulk d + 1
 end
def uptoSmall : (H : Type) → List (DataW H) → Bool := fun _ ds => decide (uptoBulkAll ds ≤ 1048576)
def OpenSpec.upto (s : _root_.Go.ChangeSpec) : _root_.Go.OpenSpec := { _root_.Go.OpenSpec.ofChange s with cond := some uptoSmall }

/-- 'catacomblaw15.RollOf', WHERE WHAT IT READS IS OF BULK AT MOST 1048576: true; the input reads as it did. -/
def rollOfUptoRow : OpenClaim := { program := "ytdmlolagpbobeaa", sum := "bb12625b413ba2f110873d6b02a3b298b6614d73ceab385beccd42489449446d", func := "catacomb/catacomblaw15.RollOf", spec := "rollOf", apart := false, narrowed := true }
def RollOfUptoSaid : Prop := rollOfUptoRow.holds Try.pinned (OpenSpec.upto rollOfSpec)

/-- 'catacomblaw15.RollJoins', WHERE WHAT IT READS IS OF BULK AT MOST 1048576: true; the input reads as it did. -/
def rollJoinsUptoRow : OpenClaim := { program := "ytdmlolagpbobeaa", sum := "bb12625b413ba2f110873d6b02a3b298b6614d73ceab385beccd42489449446d", func := "catacomb/catacomblaw15.RollJoins", spec := "rollJoins", apart := false, narrowed := true }
def RollJoinsUptoSaid : Prop := rollJoinsUptoRow.holds Try.pinned (OpenSpec.upto rollJoinsSpec)

/-- 'catacomblaw15.RollWindows', WHERE WHAT IT READS IS OF BULK AT MOST 1048576: true; the input reads as it did. -/
def rollWindowsUptoRow : OpenClaim := { program := "ytdmlolagpbobeaa", sum := "bb12625b413ba2f110873d6b02a3b298b6614d73ceab385beccd42489449446d", func := "catacomb/catacomblaw15.RollWindows", spec := "rollWindows", unfollowed := true, recurses := true, apart := false, narrowed := true }
def RollWindowsUptoSaid : Prop := rollWindowsUptoRow.holds Try.pinned (OpenSpec.upto rollWindowsSpec)

/-- 'catacomblaw15.RollTiers', WHERE WHAT IT READS IS OF BULK AT MOST 1048576: true; the input reads as it did. -/
def rollTiersUptoRow : OpenClaim := { program := "ytdmlolagpbobeaa", sum := "bb12625b413ba2f110873d6b02a3b298b6614d73ceab385beccd42489449446d", func := "catacomb/catacomblaw15.RollTiers", spec := "rollTiers", unfollowed := true, recurses := true, apart := false, narrowed := true }
def RollTiersUptoSaid : Prop := rollTiersUptoRow.holds Try.pinned (OpenSpec.upto rollTiersSpec)

/-- 'catacomblaw15.RollMeans', WHERE WHAT IT READS IS OF BULK AT MOST 1048576: true; the input reads as it did. -/
def rollMeansUptoRow : OpenClaim := { program := "ytdmlolagpbobeaa", sum := "bb12625b413ba2f110873d6b02a3b298b6614d73ceab385beccd42489449446d", func := "catacomb/catacomblaw15.RollMeans", spec := "rollMeans", apart := false, narrowed := true }
def RollMeansUptoSaid : Prop := rollMeansUptoRow.holds Try.pinned (OpenSpec.upto rollMeansSpec)

end Rows
end Go.Proofs.Ytdmlolagpbobeaa
