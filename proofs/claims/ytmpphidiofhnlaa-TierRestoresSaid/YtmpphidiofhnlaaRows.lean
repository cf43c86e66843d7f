/-
  No cell of these rows narrows 'for every input' (looked for: loops, veiled, ifaces, maps, wideKeys, modest, calm, conditions, laid).
  DERIVED. THE GIVEN ROWS OF THIS SEAT. 3 by the template 'for every input the law returns true; each argument reads behind the call as it read before'; 0 by the template 'total and deterministic' (their statements: YtmpphidiofhnlaaTotals.lean).
  GIVEN WITH THE SEED: the statements are not yours to turn. If you find one false, say at which input.
  Laid BY PROGRAM, IN A SANDBOX (cutbox-rows.mjs): the forced cells as the released guide's own fill.sh prints them over the translation 7eb7a531caa1c06d… (all of the seat's roots in one cut). By AI agents, Wed Nov 11 2026. No macro, syntax, notation, axiom, sorry.
-/
import Derived.Test.YtmpphidiofhnlaaChecked
import GoSem.Claim
import GoSem.ClaimJoined
import GoSem.ClaimMapViews
import Derived.JoinedTies
import Derived.KernelRfl
namespace Go.Proofs.Ytmpphidiofhnlaa
/- THE CELL 'sum', in the pinned program and in every row, IS THE sha256 OF THE DUMP (.gsa) THAT YtmpphidiofhnlaaProg.lean LOADS. Nothing in Lean hashes anything: it is a label: what it is worth is what the hold of that sum in a sandbox is worth. -/
noncomputable def Try.pinned : Pinned := { name := "ytmpphidiofhnlaa", sum := "7eb7a531caa1c06d891420d3e9bf14a9298efdbb9587af8729a51e06322d1d2a", checked := Try.checked }
namespace Rows
def none {H : Type} : Left H := { results := [], args := [] }

/-- 'catacomblaw16.TierForgets': WHATEVER THE INPUT: true; the input reads as it did. -/
def tierForgetsSpec : ChangeSpec := { name := "tierForgets", fn := fun _ => fun
  | [d1, d2, d3, d4] => { results := [.lit (.bool true)], args := [d1, d2, d3, d4] }
  | _ => none }
def tierForgetsRow : OpenClaim := { program := "ytmpphidiofhnlaa", sum := "7eb7a531caa1c06d891420d3e9bf14a9298efdbb9587af8729a51e06322d1d2a", func := "catacomb/catacomblaw16.TierForgets", spec := "tierForgets", inPlace := ["slices.overlaps[catacomb/api.Point]"], unfollowed := true, recurses := true, apart := false }
def TierForgetsSaid : Prop := tierForgetsRow.holds Try.pinned (OpenSpec.ofChange tierForgetsSpec)

/-- ITS FALSE NEIGHBOUR: 'it returns false'. Refute it at one input. -/
def tierForgetsWrong : ChangeSpec := { name := "tierForgets", fn := fun _ => fun
  | [d1, d2, d3, d4] => { results := [.lit (.bool false)], args := [d1, d2, d3, d4] }
  | _ => none }
def TierForgetsWrongFalsely : Prop := tierForgetsRow.holds Try.pinned (OpenSpec.ofChange tierForgetsWrong)

/-- 'catacomblaw16.TierRestores': WHATEVER THE INPUT: true; the input reads as it did. -/
def tierRestoresSpec : ChangeSpec := { name := "tierRestores", fn := fun _ => fun
  | [d1, d2, d3] => { results := [.lit (.bool true)], args := [d1, d2, d3] }
  | _ => none }
def tierRestoresRow : OpenClaim := { program := "ytmpphidiofhnlaa", sum := "7eb7a531caa1c06d891420d3e9bf14a9298efdbb9587af8729a51e06322d1d2a", func := "catacomb/catacomblaw16.TierRestores", spec := "tierRestores", inPlace := ["slices.overlaps[catacomb/api.Point]"], unfollowed := true, recurses := true, apart := false }
def TierRestoresSaid : Prop := tierRestoresRow.holds Try.pinned (OpenSpec.ofChange tierRestoresSpec)

/-- ITS FALSE NEIGHBOUR: 'it returns false'. Refute it at one input. -/
def tierRestoresWrong : ChangeSpec := { name := "tierRestores", fn := fun _ => fun
  | [d1, d2, d3] => { results := [.lit (.bool false)], args := [d1, d2, d3] }
  | _ => none }
def TierRestoresWrongFalsely : Prop := tierRestoresRow.holds Try.pinned (OpenSpec.ofChange tierRestoresWrong)

/-- 'catacomblaw16.TierRolls': WHATEVER THE INPUT: true; the input reads as it did. -/
def tierRollsSpec : ChangeSpec := { name := "tierRolls", fn := fun _ => fun
  | [d1, d2, d3] => { results := [.lit (.bool true)], args := [d1, d2, d3] }
  | _ => none }
def tierRollsRow : OpenClaim := { program := "ytmpphidiofhnlaa", sum := "7eb7a531caa1c06d891420d3e9bf14a9298efdbb9587af8729a51e06322d1d2a", func := "catacomb/catacomblaw16.TierRolls", spec := "tierRolls", inPlace := ["slices.overlaps[catacomb/api.Point]"], unfollowed := true, recurses := true, apart := false }
def TierRollsSaid : Prop := tierRollsRow.holds Try.pinned (OpenSpec.ofChange tierRollsSpec)

/-- ITS FALSE NEIGHBOUR: 'it returns false'. Refute it at one input. -/
def tierRollsWrong : ChangeSpec := { name := "tierRolls", fn := fun _ => fun
  | [d1, d2, d3] => { results := [.lit (.bool false)], args := [d1, d2, d3] }
  | _ => none }
def TierRollsWrongFalsely : Prop := tierRollsRow.holds Try.pinned (OpenSpec.ofChange tierRollsWrong)

/- THE SECOND FORM. 'bulk': how many values and letters a reading holds, each counted each time it is reached (what is shared counts as often as it is met; a slice's spare places count too). A statement '..UptoSaid' is the law's where the arguments, and the package variables that the reading takes, are together of bulk at most 1048576: NARROWER than '..Said'. Prove '..Said' where nothing that the law and all that it calls make is longer than what came in: it says more and counts as full. Else prove '..UptoSaid'. A law counts once. -/
mutual
def uptoBulk {H : Type} : DataW H → Nat
  | .lit (.string bytes) => bytes.length + 1
  | .lit _ => 1
  | .nil => 1
  | .ptr d => uptoBulk d + 1
  | .slice elems spare => uptoBulkAll elems + uptoBulkAll spare + 1
  | .agg parts => uptoBulkAll parts + 1
  | .iface _ d => uptoBulk d + 1
  | .map entries => uptoBulkEntries entries + 1
  | .held _ => 1
def uptoBulkAll {H : Type} : List (DataW H) → Nat
  | [] => 0
  | d :: r => uptoBulk d + uptoBulkAll r
def uptoBulkEntries {H : Type} : List (Lit × DataW H) → Nat
  | [] => 0
  | x :: r => uptoBulkEntry x + uptoBulkEntries r
def uptoBulkEntry {H : Type} : Lit × DataW H → Nat
  | (.string bytes, d) => bytes.length + uptoBulk d + 1
  | (_, d) => uptoBulk d + 1
 end
def uptoSmall : (H : Type) → List (DataW H) → Bool := fun _ ds => decide (uptoBulkAll ds ≤ 1048576)
def OpenSpec.upto (s : _root_.Go.ChangeSpec) : _root_.Go.OpenSpec := { _root_.Go.OpenSpec.ofChange s with cond := some uptoSmall }

/-- 'catacomblaw16.TierForgets', WHERE WHAT IT READS IS OF BULK AT MOST 1048576: true; the input reads as it did. -/
def tierForgetsUptoRow : OpenClaim := { program := "ytmpphidiofhnlaa", sum := "7eb7a531caa1c06d891420d3e9bf14a9298efdbb9587af8729a51e06322d1d2a", func := "catacomb/catacomblaw16.TierForgets", spec := "tierForgets", inPlace := ["slices.overlaps[catacomb/api.Point]"], unfollowed := true, recurses := true, apart := false, narrowed := true }
def TierForgetsUptoSaid : Prop := tierForgetsUptoRow.holds Try.pinned (OpenSpec.upto tierForgetsSpec)

/-- 'catacomblaw16.TierRestores', WHERE WHAT IT READS IS OF BULK AT MOST 1048576: true; the input reads as it did. -/
def tierRestoresUptoRow : OpenClaim := { program := "ytmpphidiofhnlaa", sum := "7eb7a531caa1c06d891420d3e9bf14a9298efdbb9587af8729a51e06322d1d2a", func := "catacomb/catacomblaw16.TierRestores", spec := "tierRestores", inPlace := ["slices.overlaps[catacomb/api.Point]"], unfollowed := true, recurses := true, apart := false, narrowed := true }
def TierRestoresUptoSaid : Prop := tierRestoresUptoRow.holds Try.pinned (OpenSpec.upto tierRestoresSpec)

/-- 'catacomblaw16.TierRolls', WHERE WHAT IT READS IS OF BULK AT MOST 1048576: true; the input reads as it did. -/
def tierRollsUptoRow : OpenClaim := { program := "ytmpphidiofhnlaa", sum := "7eb7a531caa1c06d891420d3e9bf14a9298efdbb9587af8729a51e06322d1d2a", func := "catacomb/catacomblaw16.TierRolls", spec := "tierRolls", inPlace := ["slices.overlaps[catacomb/api.Point]"], unfollowed := true, recurses := true, apart := false, narrowed := true }
def TierRollsUptoSaid : Prop := tierRollsUptoRow.holds Try.pinned (OpenSpec.upto tierRollsSpec)

end Rows
end Go.Proofs.Ytmpphidiofhnlaa
