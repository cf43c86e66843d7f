/-
  NARROWER THAN 'FOR EVERY INPUT', by the rows' own cells (each row's printed sentence says how): VaultKeeps: laid · VaultForgets: laid.
  DERIVED. THE GIVEN ROWS OF THIS SEAT. 2 by the template 'for every input the law returns true; each argument reads behind the call as it read before'; 0 by the template 'total and deterministic' (their statements: YtcdgbmeechnpiaaDoorTotals.lean).
  GIVEN WITH THE SEED: the statements are not yours to turn. If you find one false, say at which input.
  Laid BY PROGRAM, IN A SANDBOX (cutbox-rows.mjs): the forced cells as the released guide's own fill.sh prints them over the translation f5c9c7aef63ea4d3… (all of the seat's roots in one cut). By AI agents, Wed Nov 11 2026. No macro, syntax, notation, axiom, sorry.
-/
import Derived.Test.YtcdgbmeechnpiaaDoorChecked
import GoSem.Claim
import GoSem.ClaimJoined
import GoSem.ClaimMapViews
import Derived.JoinedTies
import Derived.KernelRfl
namespace Go.Proofs.YtcdgbmeechnpiaaDoor
/- THE CELL 'sum', in the pinned program and in every row, IS THE sha256 OF THE DUMP (.gsa) THAT YtcdgbmeechnpiaaDoorProg.lean LOADS. Nothing in Lean hashes anything: it is a label: what it is worth is what the hold of that sum in a sandbox is worth. -/
noncomputable def Tryd.pinned : Pinned := { name := "ytcdgbmeechnpiaadoor", sum := "f5c9c7aef63ea4d37d35259b025ffd404eb3b205b0d811e672eff338eb86a220", checked := Tryd.checked }
namespace Rows
def none {H : Type} : Left H := { results := [], args := [] }

/- WHAT THE LISTED PACKAGE-LEVEL VARIABLES READ AS WHEN THE CALL BEGINS. Each datum BY PROGRAM (the guide's laid-datum.mjs) off the statement by which the dump's own 'gosem.cut.vars' lays the variable. In a bare row this is a premise. The card (YtcdgbmeechnpiaaDoorCards.lean) ties it to the program's text. -/
def laid_catacomb_nums_steps {H : Type} : DataW H := .agg [.lit (.int .i64 32), .lit (.int .i64 16), .lit (.int .i64 8), .lit (.int .i64 4), .lit (.int .i64 2), .lit (.int .i64 1)]

/-- 'catacomblaw11.VaultKeeps': WHATEVER THE INPUT: true; the input reads as it did. -/
def vaultKeepsSpec : ChangeSpec := { name := "vaultKeeps", fn := fun _ => fun
  | [d] => { results := [.lit (.bool true)], args := [d] }
  | _ => none }
def vaultKeepsRow : OpenClaim := { program := "ytcdgbmeechnpiaadoor", sum := "f5c9c7aef63ea4d37d35259b025ffd404eb3b205b0d811e672eff338eb86a220", func := "catacomb/catacomblaw11.VaultKeeps", spec := "vaultKeeps", unfollowed := true, recurses := true, named := ["catacomb/nums.steps"], apart := false, laid := [("catacomb/nums.steps", laid_catacomb_nums_steps)] }
def VaultKeepsSaid : Prop := vaultKeepsRow.holds Tryd.pinned (OpenSpec.ofChange vaultKeepsSpec)

/-- ITS FALSE NEIGHBOUR: 'it returns false'. Refute it at one input. -/
def vaultKeepsWrong : ChangeSpec := { name := "vaultKeeps", fn := fun _ => fun
  | [d] => { results := [.lit (.bool false)], args := [d] }
  | _ => none }
def VaultKeepsWrongFalsely : Prop := vaultKeepsRow.holds Tryd.pinned (OpenSpec.ofChange vaultKeepsWrong)

/-- 'catacomblaw11.VaultForgets': WHATEVER THE INPUT: true; the input reads as it did. -/
def vaultForgetsSpec : ChangeSpec := { name := "vaultForgets", fn := fun _ => fun
  | [d1, d2, d3, d4] => { results := [.lit (.bool true)], args := [d1, d2, d3, d4] }
  | _ => none }
def vaultForgetsRow : OpenClaim := { program := "ytcdgbmeechnpiaadoor", sum := "f5c9c7aef63ea4d37d35259b025ffd404eb3b205b0d811e672eff338eb86a220", func := "catacomb/catacomblaw11.VaultForgets", spec := "vaultForgets", unfollowed := true, recurses := true, named := ["catacomb/nums.steps"], apart := false, laid := [("catacomb/nums.steps", laid_catacomb_nums_steps)] }
def VaultForgetsSaid : Prop := vaultForgetsRow.holds Tryd.pinned (OpenSpec.ofChange vaultForgetsSpec)

/-- ITS FALSE NEIGHBOUR: 'it returns false'. Refute it at one input. -/
def vaultForgetsWrong : ChangeSpec := { name := "vaultForgets", fn := fun _ => fun
  | [d1, d2, d3, d4] => { results := [.lit (.bool false)], args := [d1, d2, d3, d4] }
  | _ => none }
def VaultForgetsWrongFalsely : Prop := vaultForgetsRow.holds Tryd.pinned (OpenSpec.ofChange vaultForgetsWrong)

/- THE SECOND FORM. 'bulk': how many values and letters a reading holds, each counted each time it is reached (what is shared counts as often as it is met; a slice's spare places count too). A statement '..UptoSaid' is the law's where the arguments, and the package variables that the reading takes, are together of bulk at most 1048576: NARROWER than '..Said'. Prove '..Said' where nothing that the law and all that it calls make is longer than what came in: it says more and counts as full. Else prove '..UptoSaid'. A law counts once. -/
mutual
def uptoBulk {H : Type} : DataW H → Nat
  | .lit (.string bytes) => bytes.length + 1
  | .lit _ => 1
  | .nil => 1
  | .ptr d => uptoBulk d + 1
  | .slice elems spare => uptoBulkAll elems + uptoBulkAll spare + 1
  | .agg parts => uptoBulkAll parts + 1
  | .iface _ d => uptoBulk d + 1
  | .map entries => uptoBulkEntries entries + 1
  | .held _ => 1
def uptoBulkAll {H : Type} : List (DataW H) → Nat
  | [] => 0
  | d :: r => uptoBulk d + uptoBulkAll r
def uptoBulkEntries {H : Type} : List (Lit × DataW H) → Nat
  | [] => 0
  | x :: r => uptoBulkEntry x + uptoBulkEntries r
def uptoBulkEntry {H : Type} : Lit × DataW H → Nat
  | (.string bytes, d) => bytes.length + uptoBulk d + 1
  | (_, d) => uptoBulk d + 1
 end
def uptoSmall : (H : Type) → List (DataW H) → Bool := fun _ ds => decide (uptoBulkAll ds ≤ 1048576)
def OpenSpec.upto (s : _root_.Go.ChangeSpec) : _root_.Go.OpenSpec := { _root_.Go.OpenSpec.ofChange s with cond := some uptoSmall }

/-- 'catacomblaw11.VaultKeeps', WHERE WHAT IT READS IS OF BULK AT MOST 1048576: true; the input reads as it did. -/
def vaultKeepsUptoRow : OpenClaim := { program := "ytcdgbmeechnpiaadoor", sum := "f5c9c7aef63ea4d37d35259b025ffd404eb3b205b0d811e672eff338eb86a220", func := "catacomb/catacomblaw11.VaultKeeps", spec := "vaultKeeps", unfollowed := true, recurses := true, named := ["catacomb/nums.steps"], apart := false, laid := [("catacomb/nums.steps", laid_catacomb_nums_steps)], narrowed := true }
def VaultKeepsUptoSaid : Prop := vaultKeepsUptoRow.holds Tryd.pinned (OpenSpec.upto vaultKeepsSpec)

/-- 'catacomblaw11.VaultForgets', WHERE WHAT IT READS IS OF BULK AT MOST 1048576: true; the input reads as it did. -/
def vaultForgetsUptoRow : OpenClaim := { program := "ytcdgbmeechnpiaadoor", sum := "f5c9c7aef63ea4d37d35259b025ffd404eb3b205b0d811e672eff338eb86a220", func := "catacomb/catacomblaw11.VaultForgets", spec := "vaultForgets", unfollowed := true, recurses := true, named := ["catacomb/nums.steps"], apart := false, laid := [("catacomb/nums.steps", laid_catacomb_nums_steps)], narrowed := true }
def VaultForgetsUptoSaid : Prop := vaultForgetsUptoRow.holds Tryd.pinned (OpenSpec.upto vaultForgetsSpec)

end Rows
end Go.Proofs.YtcdgbmeechnpiaaDoor
