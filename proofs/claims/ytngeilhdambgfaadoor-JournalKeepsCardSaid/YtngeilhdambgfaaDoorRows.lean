/-
  NARROWER THAN 'FOR EVERY INPUT', by the rows' own cells (each row's printed sentence says how): JournalKeeps: laid · JournalOver: laid · JournalArgs: laid · JournalWhole: laid.
  DERIVED. THE GIVEN ROWS OF THIS SEAT. 4 by the template 'for every input the law returns true; each argument reads behind the call as it read before'; 0 by the template 'total and deterministic' (their statements: YtngeilhdambgfaaDoorTotals.lean).
  GIVEN WITH THE SEED: the statements are not yours to turn. If you find one false, say at which input.
  Laid BY PROGRAM, IN A SANDBOX (cutbox-rows.mjs): the forced cells as the released guide's own fill.sh prints them over the translation e37d26128aba2edc… (all of the seat's roots in one cut). By AI agents, Wed Nov 11 2026. No macro, syntax, notation, axiom, sorry.
-/
import Derived.Test.YtngeilhdambgfaaDoorChecked
import GoSem.Claim
import GoSem.ClaimJoined
import GoSem.ClaimMapViews
import Derived.JoinedTies
import Derived.KernelRfl
namespace Go.Proofs.YtngeilhdambgfaaDoor
/- THE CELL 'sum', in the pinned program and in every row, IS THE sha256 OF THE DUMP (.gsa) THAT YtngeilhdambgfaaDoorProg.lean LOADS. Nothing in Lean hashes anything: it is a label: what it is worth is what the hold of that sum in a sandbox is worth. -/
noncomputable def Tryd.pinned : Pinned := { name := "ytngeilhdambgfaadoor", sum := "e37d26128aba2edcc4d652048cf0868e1cf69e80b8ba57cdfaedbceacfd272c8", checked := Tryd.checked }
namespace Rows
def none {H : Type} : Left H := { results := [], args := [] }

/- WHAT THE LISTED PACKAGE-LEVEL VARIABLES READ AS WHEN THE CALL BEGINS. Each datum BY PROGRAM (the guide's laid-datum.mjs) off the statement by which the dump's own 'gosem.cut.vars' lays the variable. In a bare row this is a premise. The card (YtngeilhdambgfaaDoorCards.lean) ties it to the program's text. -/
def laid_catacomb_nums_steps {H : Type} : DataW H := .agg [.lit (.int .i64 32), .lit (.int .i64 16), .lit (.int .i64 8), .lit (.int .i64 4), .lit (.int .i64 2), .lit (.int .i64 1)]

/-- 'catacomblaw10.JournalKeeps': WHATEVER THE INPUT: true; the input reads as it did. -/
def journalKeepsSpec : ChangeSpec := { name := "journalKeeps", fn := fun _ => fun
  | [d] => { results := [.lit (.bool true)], args := [d] }
  | _ => none }
def journalKeepsRow : OpenClaim := { program := "ytngeilhdambgfaadoor", sum := "e37d26128aba2edcc4d652048cf0868e1cf69e80b8ba57cdfaedbceacfd272c8", func := "catacomb/catacomblaw10.JournalKeeps", spec := "journalKeeps", unfollowed := true, recurses := true, named := ["catacomb/nums.steps"], apart := false, laid := [("catacomb/nums.steps", laid_catacomb_nums_steps)] }
def JournalKeepsSaid : Prop := journalKeepsRow.holds Tryd.pinned (OpenSpec.ofChange journalKeepsSpec)

/-- ITS FALSE NEIGHBOUR: 'it returns false'. Refute it at one input. -/
def journalKeepsWrong : ChangeSpec := { name := "journalKeeps", fn := fun _ => fun
  | [d] => { results := [.lit (.bool false)], args := [d] }
  | _ => none }
def JournalKeepsWrongFalsely : Prop := journalKeepsRow.holds Tryd.pinned (OpenSpec.ofChange journalKeepsWrong)

/-- 'catacomblaw10.JournalOver': WHATEVER THE INPUT: true; the input reads as it did. -/
def journalOverSpec : ChangeSpec := { name := "journalOver", fn := fun _ => fun
  | [d1, d2, d3, d4, d5] => { results := [.lit (.bool true)], args := [d1, d2, d3, d4, d5] }
  | _ => none }
def journalOverRow : OpenClaim := { program := "ytngeilhdambgfaadoor", sum := "e37d26128aba2edcc4d652048cf0868e1cf69e80b8ba57cdfaedbceacfd272c8", func := "catacomb/catacomblaw10.JournalOver", spec := "journalOver", unfollowed := true, recurses := true, named := ["catacomb/nums.steps"], apart := false, laid := [("catacomb/nums.steps", laid_catacomb_nums_steps)] }
def JournalOverSaid : Prop := journalOverRow.holds Tryd.pinned (OpenSpec.ofChange journalOverSpec)

/-- ITS FALSE NEIGHBOUR: 'it returns false'. Refute it at one input. -/
def journalOverWrong : ChangeSpec := { name := "journalOver", fn := fun _ => fun
  | [d1, d2, d3, d4, d5] => { results := [.lit (.bool false)], args := [d1, d2, d3, d4, d5] }
  | _ => none }
def JournalOverWrongFalsely : Prop := journalOverRow.holds Tryd.pinned (OpenSpec.ofChange journalOverWrong)

/-- 'catacomblaw10.JournalArgs': WHATEVER THE INPUT: true; the input reads as it did. -/
def journalArgsSpec : ChangeSpec := { name := "journalArgs", fn := fun _ => fun
  | [d1, d2, d3, d4, d5] => { results := [.lit (.bool true)], args := [d1, d2, d3, d4, d5] }
  | _ => none }
def journalArgsRow : OpenClaim := { program := "ytngeilhdambgfaadoor", sum := "e37d26128aba2edcc4d652048cf0868e1cf69e80b8ba57cdfaedbceacfd272c8", func := "catacomb/catacomblaw10.JournalArgs", spec := "journalArgs", unfollowed := true, recurses := true, named := ["catacomb/nums.steps"], apart := false, laid := [("catacomb/nums.steps", laid_catacomb_nums_steps)] }
def JournalArgsSaid : Prop := journalArgsRow.holds Tryd.pinned (OpenSpec.ofChange journalArgsSpec)

/-- ITS FALSE NEIGHBOUR: 'it returns false'. Refute it at one input. -/
def journalArgsWrong : ChangeSpec := { name := "journalArgs", fn := fun _ => fun
  | [d1, d2, d3, d4, d5] => { results := [.lit (.bool false)], args := [d1, d2, d3, d4, d5] }
  | _ => none }
def JournalArgsWrongFalsely : Prop := journalArgsRow.holds Tryd.pinned (OpenSpec.ofChange journalArgsWrong)

/-- 'catacomblaw10.JournalWhole': WHATEVER THE INPUT: true; the input reads as it did. -/
def journalWholeSpec : ChangeSpec := { name := "journalWhole", fn := fun _ => fun
  | [d1, d2] => { results := [.lit (.bool true)], args := [d1, d2] }
  | _ => none }
def journalWholeRow : OpenClaim := { program := "ytngeilhdambgfaadoor", sum := "e37d26128aba2edcc4d652048cf0868e1cf69e80b8ba57cdfaedbceacfd272c8", func := "catacomb/catacomblaw10.JournalWhole", spec := "journalWhole", unfollowed := true, recurses := true, named := ["catacomb/nums.steps"], apart := false, laid := [("catacomb/nums.steps", laid_catacomb_nums_steps)] }
def JournalWholeSaid : Prop := journalWholeRow.holds Tryd.pinned (OpenSpec.ofChange journalWholeSpec)

/-- ITS FALSE NEIGHBOUR: 'it returns false'. Refute it at one input. -/
def journalWholeWrong : ChangeSpec := { name := "journalWhole", fn := fun _ => fun
  | [d1, d2] => { results := [.lit (.bool false)], args := [d1, d2] }
  | _ => none }
def JournalWholeWrongFalsely : Prop := journalWholeRow.holds Tryd.pinned (OpenSpec.ofChange journalWholeWrong)

/- THE SECOND FORM. 'bulk': how many values and letters a reading holds, each counted each time it is reached (what is shared counts as often as it is met; a slice's spare places count too). A statement '..UptoSaid' is the law's where the arguments, and the package variables that the reading takes, are together of bulk at most 1048576: NARROWER than '..Said'. Prove '..Said' where nothing that the law and all that it calls make is longer than what came in: it says more and counts as full. Else prove '..UptoSaid'. A law counts once. -/
mutual
def uptoBulk {H : Type} : DataW H → Nat
  | .lit (.string bytes) => bytes.length + 1
  | .lit _ => 1
  | .nil => 1
  | .ptr d => uptoBulk d + 1
  | .slice elems spare => uptoBulkAll elems + uptoBulkAll spare + 1
  | .agg parts => uptoBulkAll parts + 1
  | .iface _ d => uptoBulk d + 1
  | .map entries => uptoBulkEntries entries + 1
  | .held _ => 1
def uptoBulkAll {H : Type} : List (DataW H) → Nat
  | [] => 0
  | d :: r => uptoBulk d + uptoBulkAll r
def uptoBulkEntries {H : Type} : List (Lit × DataW H) → Nat
  | [] => 0
  | x :: r => uptoBulkEntry x + uptoBulkEntries r
def uptoBulkEntry {H : Type} : Lit × DataW H → Nat
  | (.string bytes, d) => bytes.length + uptoBulk d + 1
  | (_, d) => uptoBulk d + 1
 end
def uptoSmall : (H : Type) → List (DataW H) → Bool := fun _ ds => decide (uptoBulkAll ds ≤ 1048576)
def OpenSpec.upto (s : _root_.Go.ChangeSpec) : _root_.Go.OpenSpec := { _root_.Go.OpenSpec.ofChange s with cond := some uptoSmall }

/-- 'catacomblaw10.JournalKeeps', WHERE WHAT IT READS IS OF BULK AT MOST 1048576: true; the input reads as it did. -/
def journalKeepsUptoRow : OpenClaim := { program := "ytngeilhdambgfaadoor", sum := "e37d26128aba2edcc4d652048cf0868e1cf69e80b8ba57cdfaedbceacfd272c8", func := "catacomb/catacomblaw10.JournalKeeps", spec := "journalKeeps", unfollowed := true, recurses := true, named := ["catacomb/nums.steps"], apart := false, laid := [("catacomb/nums.steps", laid_catacomb_nums_steps)], narrowed := true }
def JournalKeepsUptoSaid : Prop := journalKeepsUptoRow.holds Tryd.pinned (OpenSpec.upto journalKeepsSpec)

/-- 'catacomblaw10.JournalOver', WHERE WHAT IT READS IS OF BULK AT MOST 1048576: true; the input reads as it did. -/
def journalOverUptoRow : OpenClaim := { program := "ytngeilhdambgfaadoor", sum := "e37d26128aba2edcc4d652048cf0868e1cf69e80b8ba57cdfaedbceacfd272c8", func := "catacomb/catacomblaw10.JournalOver", spec := "journalOver", unfollowed := true, recurses := true, named := ["catacomb/nums.steps"], apart := false, laid := [("catacomb/nums.steps", laid_catacomb_nums_steps)], narrowed := true }
def JournalOverUptoSaid : Prop := journalOverUptoRow.holds Tryd.pinned (OpenSpec.upto journalOverSpec)

/-- 'catacomblaw10.JournalArgs', WHERE WHAT IT READS IS OF BULK AT MOST 1048576: true; the input reads as it did. -/
def journalArgsUptoRow : OpenClaim := { program := "ytngeilhdambgfaadoor", sum := "e37d26128aba2edcc4d652048cf0868e1cf69e80b8ba57cdfaedbceacfd272c8", func := "catacomb/catacomblaw10.JournalArgs", spec := "journalArgs", unfollowed := true, recurses := true, named := ["catacomb/nums.steps"], apart := false, laid := [("catacomb/nums.steps", laid_catacomb_nums_steps)], narrowed := true }
def JournalArgsUptoSaid : Prop := journalArgsUptoRow.holds Tryd.pinned (OpenSpec.upto journalArgsSpec)

/-- 'catacomblaw10.JournalWhole', WHERE WHAT IT READS IS OF BULK AT MOST 1048576: true; the input reads as it did. -/
def journalWholeUptoRow : OpenClaim := { program := "ytngeilhdambgfaadoor", sum := "e37d26128aba2edcc4d652048cf0868e1cf69e80b8ba57cdfaedbceacfd272c8", func := "catacomb/catacomblaw10.JournalWhole", spec := "journalWhole", unfollowed := true, recurses := true, named := ["catacomb/nums.steps"], apart := false, laid := [("catacomb/nums.steps", laid_catacomb_nums_steps)], narrowed := true }
def JournalWholeUptoSaid : Prop := journalWholeUptoRow.holds Tryd.pinned (OpenSpec.upto journalWholeSpec)

end Rows
end Go.Proofs.YtngeilhdambgfaaDoor
