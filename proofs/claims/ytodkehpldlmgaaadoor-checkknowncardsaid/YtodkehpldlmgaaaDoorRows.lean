/-
  NARROWER THAN 'FOR EVERY INPUT', by the rows' own cells (each row's printed sentence says how): CheckKnown: laid · CheckBehind: laid · CheckSums: laid · CheckJumps: laid · CheckBounds: laid · CheckWithin: laid · CheckUnset: laid · CheckEnds: laid · CheckWays: laid.
  DERIVED. THE GIVEN ROWS OF THIS SEAT. 9 by the template 'for every input the law returns true; each argument reads behind the call as it read before'; 0 by the template 'total and deterministic' (their statements: YtodkehpldlmgaaaDoorTotals.lean).
  GIVEN WITH THE SEED: the statements are not yours to turn. If you find one false, say at which input.
  Laid BY PROGRAM, IN A SANDBOX (cutbox-rows.mjs): the forced cells as the released guide's own fill.sh prints them over the translation 1f6873fcc3dad3b4… (all of the seat's roots in one cut). By AI agents, Wed Nov 11 2026. No macro, syntax, notation, axiom, sorry.
-/
import Derived.Test.YtodkehpldlmgaaaDoorChecked
import GoSem.Claim
import GoSem.ClaimJoined
import GoSem.ClaimMapViews
import Derived.JoinedTies
import Derived.KernelRfl
namespace Go.Proofs.YtodkehpldlmgaaaDoor
/- THE CELL 'sum', in the pinned program and in every row, IS THE sha256 OF THE DUMP (.gsa) THAT YtodkehpldlmgaaaDoorProg.lean LOADS. Nothing in Lean hashes anything: it is a label: what it is worth is what the hold of that sum in a sandbox is worth. -/
noncomputable def Tryd.pinned : Pinned := { name := "ytodkehpldlmgaaadoor", sum := "1f6873fcc3dad3b419065c6df5cecd681795cadada4bcbf8c05335c4e32f561b", checked := Tryd.checked }
namespace Rows
def none {H : Type} : Left H := { results := [], args := [] }

/- WHAT THE LISTED PACKAGE-LEVEL VARIABLES READ AS WHEN THE CALL BEGINS. Each datum BY PROGRAM (the guide's laid-datum.mjs) off the statement by which the dump's own 'gosem.cut.vars' lays the variable. In a bare row this is a premise. The card (YtodkehpldlmgaaaDoorCards.lean) ties it to the program's text. -/
def laid_cachet_code_ops {H : Type} : DataW H := .agg [.agg [.lit (.string []), .lit (.int .i64 0)], .agg [.lit (.string [109, 111, 118, 105]), .lit (.int .i64 5)], .agg [.lit (.string [109, 111, 118]), .lit (.int .i64 3)], .agg [.lit (.string [97, 100, 100, 105]), .lit (.int .i64 5)], .agg [.lit (.string [97, 100, 100]), .lit (.int .i64 3)], .agg [.lit (.string [115, 117, 98]), .lit (.int .i64 3)], .agg [.lit (.string [109, 117, 108, 105]), .lit (.int .i64 5)], .agg [.lit (.string [109, 117, 108]), .lit (.int .i64 3)], .agg [.lit (.string [97, 110, 100, 105]), .lit (.int .i64 5)], .agg [.lit (.string [97, 110, 100]), .lit (.int .i64 3)], .agg [.lit (.string [111, 114]), .lit (.int .i64 3)], .agg [.lit (.string [120, 111, 114]), .lit (.int .i64 3)], .agg [.lit (.string [115, 104, 108, 105]), .lit (.int .i64 9)], .agg [.lit (.string [115, 104, 114, 105]), .lit (.int .i64 9)], .agg [.lit (.string [100, 105, 118]), .lit (.int .i64 3)], .agg [.lit (.string [109, 111, 100]), .lit (.int .i64 3)], .agg [.lit (.string [108, 100, 99]), .lit (.int .i64 35)], .agg [.lit (.string [108, 100, 115]), .lit (.int .i64 35)], .agg [.lit (.string [115, 116, 115]), .lit (.int .i64 35)], .agg [.lit (.string [106, 97]), .lit (.int .i64 64)], .agg [.lit (.string [106, 101, 113, 105]), .lit (.int .i64 69)], .agg [.lit (.string [106, 108, 116, 105]), .lit (.int .i64 69)], .agg [.lit (.string [106, 108, 116]), .lit (.int .i64 67)], .agg [.lit (.string [99, 97, 108, 108]), .lit (.int .i64 16)], .agg [.lit (.string [101, 120, 105, 116]), .lit (.int .i64 0)]]

/-- 'cachetlaw06.CheckKnown': WHATEVER THE INPUT: true; the input reads as it did. -/
def checkKnownSpec : ChangeSpec := { name := "checkKnown", fn := fun _ => fun
  | [d] => { results := [.lit (.bool true)], args := [d] }
  | _ => none }
def checkKnownRow : OpenClaim := { program := "ytodkehpldlmgaaadoor", sum := "1f6873fcc3dad3b419065c6df5cecd681795cadada4bcbf8c05335c4e32f561b", func := "cachet/cachetlaw06.CheckKnown", spec := "checkKnown", unfollowed := true, recurses := true, named := ["cachet/code.ops"], apart := false, laid := [("cachet/code.ops", laid_cachet_code_ops)] }
def CheckKnownSaid : Prop := checkKnownRow.holds Tryd.pinned (OpenSpec.ofChange checkKnownSpec)

/-- ITS FALSE NEIGHBOUR: 'it returns false'. Refute it at one input. -/
def checkKnownWrong : ChangeSpec := { name := "checkKnown", fn := fun _ => fun
  | [d] => { results := [.lit (.bool false)], args := [d] }
  | _ => none }
def CheckKnownWrongFalsely : Prop := checkKnownRow.holds Tryd.pinned (OpenSpec.ofChange checkKnownWrong)

/-- 'cachetlaw06.CheckBehind': WHATEVER THE INPUT: true; the input reads as it did. -/
def checkBehindSpec : ChangeSpec := { name := "checkBehind", fn := fun _ => fun
  | [d1, d2, d3] => { results := [.lit (.bool true)], args := [d1, d2, d3] }
  | _ => none }
def checkBehindRow : OpenClaim := { program := "ytodkehpldlmgaaadoor", sum := "1f6873fcc3dad3b419065c6df5cecd681795cadada4bcbf8c05335c4e32f561b", func := "cachet/cachetlaw06.CheckBehind", spec := "checkBehind", unfollowed := true, recurses := true, named := ["cachet/code.ops"], apart := false, laid := [("cachet/code.ops", laid_cachet_code_ops)] }
def CheckBehindSaid : Prop := checkBehindRow.holds Tryd.pinned (OpenSpec.ofChange checkBehindSpec)

/-- ITS FALSE NEIGHBOUR: 'it returns false'. Refute it at one input. -/
def checkBehindWrong : ChangeSpec := { name := "checkBehind", fn := fun _ => fun
  | [d1, d2, d3] => { results := [.lit (.bool false)], args := [d1, d2, d3] }
  | _ => none }
def CheckBehindWrongFalsely : Prop := checkBehindRow.holds Tryd.pinned (OpenSpec.ofChange checkBehindWrong)

/-- 'cachetlaw06.CheckSums': WHATEVER THE INPUT: true; the input reads as it did. -/
def checkSumsSpec : ChangeSpec := { name := "checkSums", fn := fun _ => fun
  | [d1, d2, d3] => { results := [.lit (.bool true)], args := [d1, d2, d3] }
  | _ => none }
def checkSumsRow : OpenClaim := { program := "ytodkehpldlmgaaadoor", sum := "1f6873fcc3dad3b419065c6df5cecd681795cadada4bcbf8c05335c4e32f561b", func := "cachet/cachetlaw06.CheckSums", spec := "checkSums", unfollowed := true, recurses := true, named := ["cachet/code.ops"], apart := false, laid := [("cachet/code.ops", laid_cachet_code_ops)] }
def CheckSumsSaid : Prop := checkSumsRow.holds Tryd.pinned (OpenSpec.ofChange checkSumsSpec)

/-- ITS FALSE NEIGHBOUR: 'it returns false'. Refute it at one input. -/
def checkSumsWrong : ChangeSpec := { name := "checkSums", fn := fun _ => fun
  | [d1, d2, d3] => { results := [.lit (.bool false)], args := [d1, d2, d3] }
  | _ => none }
def CheckSumsWrongFalsely : Prop := checkSumsRow.holds Tryd.pinned (OpenSpec.ofChange checkSumsWrong)

/-- 'cachetlaw06.CheckJumps': WHATEVER THE INPUT: true; the input reads as it did. -/
def checkJumpsSpec : ChangeSpec := { name := "checkJumps", fn := fun _ => fun
  | [d1, d2, d3] => { results := [.lit (.bool true)], args := [d1, d2, d3] }
  | _ => none }
def checkJumpsRow : OpenClaim := { program := "ytodkehpldlmgaaadoor", sum := "1f6873fcc3dad3b419065c6df5cecd681795cadada4bcbf8c05335c4e32f561b", func := "cachet/cachetlaw06.CheckJumps", spec := "checkJumps", unfollowed := true, recurses := true, named := ["cachet/code.ops"], apart := false, laid := [("cachet/code.ops", laid_cachet_code_ops)] }
def CheckJumpsSaid : Prop := checkJumpsRow.holds Tryd.pinned (OpenSpec.ofChange checkJumpsSpec)

/-- ITS FALSE NEIGHBOUR: 'it returns false'. Refute it at one input. -/
def checkJumpsWrong : ChangeSpec := { name := "checkJumps", fn := fun _ => fun
  | [d1, d2, d3] => { results := [.lit (.bool false)], args := [d1, d2, d3] }
  | _ => none }
def CheckJumpsWrongFalsely : Prop := checkJumpsRow.holds Tryd.pinned (OpenSpec.ofChange checkJumpsWrong)

/-- 'cachetlaw06.CheckBounds': WHATEVER THE INPUT: true; the input reads as it did. -/
def checkBoundsSpec : ChangeSpec := { name := "checkBounds", fn := fun _ => fun
  | [d1, d2, d3] => { results := [.lit (.bool true)], args := [d1, d2, d3] }
  | _ => none }
def checkBoundsRow : OpenClaim := { program := "ytodkehpldlmgaaadoor", sum := "1f6873fcc3dad3b419065c6df5cecd681795cadada4bcbf8c05335c4e32f561b", func := "cachet/cachetlaw06.CheckBounds", spec := "checkBounds", unfollowed := true, recurses := true, named := ["cachet/code.ops"], apart := false, laid := [("cachet/code.ops", laid_cachet_code_ops)] }
def CheckBoundsSaid : Prop := checkBoundsRow.holds Tryd.pinned (OpenSpec.ofChange checkBoundsSpec)

/-- ITS FALSE NEIGHBOUR: 'it returns false'. Refute it at one input. -/
def checkBoundsWrong : ChangeSpec := { name := "checkBounds", fn := fun _ => fun
  | [d1, d2, d3] => { results := [.lit (.bool false)], args := [d1, d2, d3] }
  | _ => none }
def CheckBoundsWrongFalsely : Prop := checkBoundsRow.holds Tryd.pinned (OpenSpec.ofChange checkBoundsWrong)

/-- 'cachetlaw06.CheckWithin': WHATEVER THE INPUT: true; the input reads as it did. -/
def checkWithinSpec : ChangeSpec := { name := "checkWithin", fn := fun _ => fun
  | [d1, d2, d3] => { results := [.lit (.bool true)], args := [d1, d2, d3] }
  | _ => none }
def checkWithinRow : OpenClaim := { program := "ytodkehpldlmgaaadoor", sum := "1f6873fcc3dad3b419065c6df5cecd681795cadada4bcbf8c05335c4e32f561b", func := "cachet/cachetlaw06.CheckWithin", spec := "checkWithin", unfollowed := true, recurses := true, named := ["cachet/code.ops"], apart := false, laid := [("cachet/code.ops", laid_cachet_code_ops)] }
def CheckWithinSaid : Prop := checkWithinRow.holds Tryd.pinned (OpenSpec.ofChange checkWithinSpec)

/-- ITS FALSE NEIGHBOUR: 'it returns false'. Refute it at one input. -/
def checkWithinWrong : ChangeSpec := { name := "checkWithin", fn := fun _ => fun
  | [d1, d2, d3] => { results := [.lit (.bool false)], args := [d1, d2, d3] }
  | _ => none }
def CheckWithinWrongFalsely : Prop := checkWithinRow.holds Tryd.pinned (OpenSpec.ofChange checkWithinWrong)

/-- 'cachetlaw06.CheckUnset': WHATEVER THE INPUT: true; the input reads as it did. -/
def checkUnsetSpec : ChangeSpec := { name := "checkUnset", fn := fun _ => fun
  | [d] => { results := [.lit (.bool true)], args := [d] }
  | _ => none }
def checkUnsetRow : OpenClaim := { program := "ytodkehpldlmgaaadoor", sum := "1f6873fcc3dad3b419065c6df5cecd681795cadada4bcbf8c05335c4e32f561b", func := "cachet/cachetlaw06.CheckUnset", spec := "checkUnset", unfollowed := true, recurses := true, named := ["cachet/code.ops"], apart := false, laid := [("cachet/code.ops", laid_cachet_code_ops)] }
def CheckUnsetSaid : Prop := checkUnsetRow.holds Tryd.pinned (OpenSpec.ofChange checkUnsetSpec)

/-- ITS FALSE NEIGHBOUR: 'it returns false'. Refute it at one input. -/
def checkUnsetWrong : ChangeSpec := { name := "checkUnset", fn := fun _ => fun
  | [d] => { results := [.lit (.bool false)], args := [d] }
  | _ => none }
def CheckUnsetWrongFalsely : Prop := checkUnsetRow.holds Tryd.pinned (OpenSpec.ofChange checkUnsetWrong)

/-- 'cachetlaw06.CheckEnds': WHATEVER THE INPUT: true; the input reads as it did. -/
def checkEndsSpec : ChangeSpec := { name := "checkEnds", fn := fun _ => fun
  | [d1, d2, d3] => { results := [.lit (.bool true)], args := [d1, d2, d3] }
  | _ => none }
def checkEndsRow : OpenClaim := { program := "ytodkehpldlmgaaadoor", sum := "1f6873fcc3dad3b419065c6df5cecd681795cadada4bcbf8c05335c4e32f561b", func := "cachet/cachetlaw06.CheckEnds", spec := "checkEnds", unfollowed := true, recurses := true, named := ["cachet/code.ops"], apart := false, laid := [("cachet/code.ops", laid_cachet_code_ops)] }
def CheckEndsSaid : Prop := checkEndsRow.holds Tryd.pinned (OpenSpec.ofChange checkEndsSpec)

/-- ITS FALSE NEIGHBOUR: 'it returns false'. Refute it at one input. -/
def checkEndsWrong : ChangeSpec := { name := "checkEnds", fn := fun _ => fun
  | [d1, d2, d3] => { results := [.lit (.bool false)], args := [d1, d2, d3] }
  | _ => none }
def CheckEndsWrongFalsely : Prop := checkEndsRow.holds Tryd.pinned (OpenSpec.ofChange checkEndsWrong)

/-- 'cachetlaw06.CheckWays': WHATEVER THE INPUT: true; the input reads as it did. -/
def checkWaysSpec : ChangeSpec := { name := "checkWays", fn := fun _ => fun
  | [d1, d2, d3] => { results := [.lit (.bool true)], args := [d1, d2, d3] }
  | _ => none }
def checkWaysRow : OpenClaim := { program := "ytodkehpldlmgaaadoor", sum := "1f6873fcc3dad3b419065c6df5cecd681795cadada4bcbf8c05335c4e32f561b", func := "cachet/cachetlaw06.CheckWays", spec := "checkWays", unfollowed := true, recurses := true, named := ["cachet/code.ops"], apart := false, laid := [("cachet/code.ops", laid_cachet_code_ops)] }
def CheckWaysSaid : Prop := checkWaysRow.holds Tryd.pinned (OpenSpec.ofChange checkWaysSpec)

/-- ITS FALSE NEIGHBOUR: 'it returns false'. Refute it at one input. -/
def checkWaysWrong : ChangeSpec := { name := "checkWays", fn := fun _ => fun
  | [d1, d2, d3] => { results := [.lit (.bool false)], args := [d1, d2, d3] }
  | _ => none }
def CheckWaysWrongFalsely : Prop := checkWaysRow.holds Tryd.pinned (OpenSpec.ofChange checkWaysWrong)

/- THE SECOND FORM. 'bulk': how many values and letters a reading holds, each counted each time it is reached (what is shared counts as often as it is met; a slice's spare places count too). A statement '..UptoSaid' is the law's where the arguments, and the package variables that the reading takes, are together of bulk at most 1048576: NARROWER than '..Said'. Prove '..Said' where nothing that the law and all that it calls make is longer than what came in: it says more and counts as full. Else prove '..UptoSaid'. A law counts once. -/
mutual
def uptoBulk {H : Type} : DataW H → Nat
  | .lit (.string bytes) => bytes.length + 1
  | .lit _ => 1
  | .nil => 1
  | .ptr d => uptoBulk d + 1
  | .slice elems spare => uptoBulkAll elems + uptoBulkAll spare + 1
  | .agg parts => uptoBulkAll parts + 1
  | .iface _ d => uptoBulk d + 1
  | .map entries => uptoBulkEntries entries + 1
  | .held _ => 1
def uptoBulkAll {H : Type} : List (DataW H) → Nat
  | [] => 0
  | d :: r => uptoBulk d + uptoBulkAll r
def uptoBulkEntries {H : Type} : List (Lit × DataW H) → Nat
  | [] => 0
  | x :: r => uptoBulkEntry x + uptoBulkEntries r
def uptoBulkEntry {H : Type} : Lit × DataW H → Nat
  | (.string bytes, d) => bytes.length + uptoBulk d + 1
  | (_, d) => uptoBulk d + 1
 end
def uptoSmall : (H : Type) → List (DataW H) → Bool := fun _ ds => decide (uptoBulkAll ds ≤ 1048576)
def OpenSpec.upto (s : _root_.Go.ChangeSpec) : _root_.Go.OpenSpec := { _root_.Go.OpenSpec.ofChange s with cond := some uptoSmall }

/-- 'cachetlaw06.CheckKnown', WHERE WHAT IT READS IS OF BULK AT MOST 1048576: true; the input reads as it did. -/
def checkKnownUptoRow : OpenClaim := { program := "ytodkehpldlmgaaadoor", sum := "1f6873fcc3dad3b419065c6df5cecd681795cadada4bcbf8c05335c4e32f561b", func := "cachet/cachetlaw06.CheckKnown", spec := "checkKnown", unfollowed := true, recurses := true, named := ["cachet/code.ops"], apart := false, laid := [("cachet/code.ops", laid_cachet_code_ops)], narrowed := true }
def CheckKnownUptoSaid : Prop := checkKnownUptoRow.holds Tryd.pinned (OpenSpec.upto checkKnownSpec)

/-- 'cachetlaw06.CheckBehind', WHERE WHAT IT READS IS OF BULK AT MOST 1048576: true; the input reads as it did. -/
def checkBehindUptoRow : OpenClaim := { program := "ytodkehpldlmgaaadoor", sum := "1f6873fcc3dad3b419065c6df5cecd681795cadada4bcbf8c05335c4e32f561b", func := "cachet/cachetlaw06.CheckBehind", spec := "checkBehind", unfollowed := true, recurses := true, named := ["cachet/code.ops"], apart := false, laid := [("cachet/code.ops", laid_cachet_code_ops)], narrowed := true }
def CheckBehindUptoSaid : Prop := checkBehindUptoRow.holds Tryd.pinned (OpenSpec.upto checkBehindSpec)

/-- 'cachetlaw06.CheckSums', WHERE WHAT IT READS IS OF BULK AT MOST 1048576: true; the input reads as it did. -/
def checkSumsUptoRow : OpenClaim := { program := "ytodkehpldlmgaaadoor", sum := "1f6873fcc3dad3b419065c6df5cecd681795cadada4bcbf8c05335c4e32f561b", func := "cachet/cachetlaw06.CheckSums", spec := "checkSums", unfollowed := true, recurses := true, named := ["cachet/code.ops"], apart := false, laid := [("cachet/code.ops", laid_cachet_code_ops)], narrowed := true }
def CheckSumsUptoSaid : Prop := checkSumsUptoRow.holds Tryd.pinned (OpenSpec.upto checkSumsSpec)

/-- 'cachetlaw06.CheckJumps', WHERE WHAT IT READS IS OF BULK AT MOST 1048576: true; the input reads as it did. -/
def checkJumpsUptoRow : OpenClaim := { program := "ytodkehpldlmgaaadoor", sum := "1f6873fcc3dad3b419065c6df5cecd681795cadada4bcbf8c05335c4e32f561b", func := "cachet/cachetlaw06.CheckJumps", spec := "checkJumps", unfollowed := true, recurses := true, named := ["cachet/code.ops"], apart := false, laid := [("cachet/code.ops", laid_cachet_code_ops)], narrowed := true }
def CheckJumpsUptoSaid : Prop := checkJumpsUptoRow.holds Tryd.pinned (OpenSpec.upto checkJumpsSpec)

/-- 'cachetlaw06.CheckBounds', WHERE WHAT IT READS IS OF BULK AT MOST 1048576: true; the input reads as it did. -/
def checkBoundsUptoRow : OpenClaim := { program := "ytodkehpldlmgaaadoor", sum := "1f6873fcc3dad3b419065c6df5cecd681795cadada4bcbf8c05335c4e32f561b", func := "cachet/cachetlaw06.CheckBounds", spec := "checkBounds", unfollowed := true, recurses := true, named := ["cachet/code.ops"], apart := false, laid := [("cachet/code.ops", laid_cachet_code_ops)], narrowed := true }
def CheckBoundsUptoSaid : Prop := checkBoundsUptoRow.holds Tryd.pinned (OpenSpec.upto checkBoundsSpec)

/-- 'cachetlaw06.CheckWithin', WHERE WHAT IT READS IS OF BULK AT MOST 1048576: true; the input reads as it did. -/
def checkWithinUptoRow : OpenClaim := { program := "ytodkehpldlmgaaadoor", sum := "1f6873fcc3dad3b419065c6df5cecd681795cadada4bcbf8c05335c4e32f561b", func := "cachet/cachetlaw06.CheckWithin", spec := "checkWithin", unfollowed := true, recurses := true, named := ["cachet/code.ops"], apart := false, laid := [("cachet/code.ops", laid_cachet_code_ops)], narrowed := true }
def CheckWithinUptoSaid : Prop := checkWithinUptoRow.holds Tryd.pinned (OpenSpec.upto checkWithinSpec)

/-- 'cachetlaw06.CheckUnset', WHERE WHAT IT READS IS OF BULK AT MOST 1048576: true; the input reads as it did. -/
def checkUnsetUptoRow : OpenClaim := { program := "ytodkehpldlmgaaadoor", sum := "1f6873fcc3dad3b419065c6df5cecd681795cadada4bcbf8c05335c4e32f561b", func := "cachet/cachetlaw06.CheckUnset", spec := "checkUnset", unfollowed := true, recurses := true, named := ["cachet/code.ops"], apart := false, laid := [("cachet/code.ops", laid_cachet_code_ops)], narrowed := true }
def CheckUnsetUptoSaid : Prop := checkUnsetUptoRow.holds Tryd.pinned (OpenSpec.upto checkUnsetSpec)

/-- 'cachetlaw06.CheckEnds', WHERE WHAT IT READS IS OF BULK AT MOST 1048576: true; the input reads as it did. -/
def checkEndsUptoRow : OpenClaim := { program := "ytodkehpldlmgaaadoor", sum := "1f6873fcc3dad3b419065c6df5cecd681795cadada4bcbf8c05335c4e32f561b", func := "cachet/cachetlaw06.CheckEnds", spec := "checkEnds", unfollowed := true, recurses := true, named := ["cachet/code.ops"], apart := false, laid := [("cachet/code.ops", laid_cachet_code_ops)], narrowed := true }
def CheckEndsUptoSaid : Prop := checkEndsUptoRow.holds Tryd.pinned (OpenSpec.upto checkEndsSpec)

/-- 'cachetlaw06.CheckWays', WHERE WHAT IT READS IS OF BULK AT MOST 1048576: true; the input reads as it did. -/
def checkWaysUptoRow : OpenClaim := { program := "ytodkehpldlmgaaadoor", sum := "1f6873fcc3dad3b419065c6df5cecd681795cadada4bcbf8c05335c4e32f561b", func := "cachet/cachetlaw06.CheckWays", spec := "checkWays", unfollowed := true, recurses := true, named := ["cachet/code.ops"], apart := false, laid := [("cachet/code.ops", laid_cachet_code_ops)], narrowed := true }
def CheckWaysUptoSaid : Prop := checkWaysUptoRow.holds Tryd.pinned (OpenSpec.upto checkWaysSpec)

end Rows
end Go.Proofs.YtodkehpldlmgaaaDoor
