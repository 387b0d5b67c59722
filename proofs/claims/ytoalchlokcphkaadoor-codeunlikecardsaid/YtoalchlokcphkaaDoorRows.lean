/-
  NARROWER THAN 'FOR EVERY INPUT', by the rows' own cells (each row's printed sentence says how): CodeBytes: laid · CodeReads: laid · CodeTexts: laid · CodeParts: laid · CodeSizes: laid · CodeTable: laid · CodeSpoilt: laid · CodeUnlike: laid.
  DERIVED. THE GIVEN ROWS OF THIS SEAT. 8 by the template 'for every input the law returns true; each argument reads behind the call as it read before'; 0 by the template 'total and deterministic' (their statements: YtoalchlokcphkaaDoorTotals.lean).
  GIVEN WITH THE SEED: the statements are not yours to turn. If you find one false, say at which input.
  Laid BY PROGRAM, IN A SANDBOX (cutbox-rows.mjs): the forced cells as the released guide's own fill.sh prints them over the translation ff611dd4fd331505… (all of the seat's roots in one cut). By AI agents, Wed Nov 11 2026. No macro, syntax, notation, axiom, sorry.
-/
import Derived.Test.YtoalchlokcphkaaDoorChecked
import GoSem.Claim
import GoSem.ClaimJoined
import GoSem.ClaimMapViews
import Derived.JoinedTies
import Derived.KernelRfl
namespace Go.Proofs.YtoalchlokcphkaaDoor
/- THE CELL 'sum', in the pinned program and in every row, IS THE sha256 OF THE DUMP (.gsa) THAT YtoalchlokcphkaaDoorProg.lean LOADS. Nothing in Lean hashes anything: it is a label: what it is worth is what the hold of that sum in a sandbox is worth. -/
noncomputable def Tryd.pinned : Pinned := { name := "ytoalchlokcphkaadoor", sum := "ff611dd4fd331505fa31abacd519567338d0603a5406f3a13a0175a84679e7e0", checked := Tryd.checked }
namespace Rows
def none {H : Type} : Left H := { results := [], args := [] }

/- WHAT THE LISTED PACKAGE-LEVEL VARIABLES READ AS WHEN THE CALL BEGINS. Each datum BY PROGRAM (the guide's laid-datum.mjs) off the statement by which the dump's own 'gosem.cut.vars' lays the variable. In a bare row this is a premise. The card (YtoalchlokcphkaaDoorCards.lean) ties it to the program's text. -/
def laid_cachet_code_ops {H : Type} : DataW H := .agg [.agg [.lit (.string []), .lit (.int .i64 0)], .agg [.lit (.string [109, 111, 118, 105]), .lit (.int .i64 5)], .agg [.lit (.string [109, 111, 118]), .lit (.int .i64 3)], .agg [.lit (.string [97, 100, 100, 105]), .lit (.int .i64 5)], .agg [.lit (.string [97, 100, 100]), .lit (.int .i64 3)], .agg [.lit (.string [115, 117, 98]), .lit (.int .i64 3)], .agg [.lit (.string [109, 117, 108, 105]), .lit (.int .i64 5)], .agg [.lit (.string [109, 117, 108]), .lit (.int .i64 3)], .agg [.lit (.string [97, 110, 100, 105]), .lit (.int .i64 5)], .agg [.lit (.string [97, 110, 100]), .lit (.int .i64 3)], .agg [.lit (.string [111, 114]), .lit (.int .i64 3)], .agg [.lit (.string [120, 111, 114]), .lit (.int .i64 3)], .agg [.lit (.string [115, 104, 108, 105]), .lit (.int .i64 9)], .agg [.lit (.string [115, 104, 114, 105]), .lit (.int .i64 9)], .agg [.lit (.string [100, 105, 118]), .lit (.int .i64 3)], .agg [.lit (.string [109, 111, 100]), .lit (.int .i64 3)], .agg [.lit (.string [108, 100, 99]), .lit (.int .i64 35)], .agg [.lit (.string [108, 100, 115]), .lit (.int .i64 35)], .agg [.lit (.string [115, 116, 115]), .lit (.int .i64 35)], .agg [.lit (.string [106, 97]), .lit (.int .i64 64)], .agg [.lit (.string [106, 101, 113, 105]), .lit (.int .i64 69)], .agg [.lit (.string [106, 108, 116, 105]), .lit (.int .i64 69)], .agg [.lit (.string [106, 108, 116]), .lit (.int .i64 67)], .agg [.lit (.string [99, 97, 108, 108]), .lit (.int .i64 16)], .agg [.lit (.string [101, 120, 105, 116]), .lit (.int .i64 0)]]
def laid_math_bits_deBruijn32tab {H : Type} : DataW H := .agg [.lit (.int .u8 0), .lit (.int .u8 1), .lit (.int .u8 28), .lit (.int .u8 2), .lit (.int .u8 29), .lit (.int .u8 14), .lit (.int .u8 24), .lit (.int .u8 3), .lit (.int .u8 30), .lit (.int .u8 22), .lit (.int .u8 20), .lit (.int .u8 15), .lit (.int .u8 25), .lit (.int .u8 17), .lit (.int .u8 4), .lit (.int .u8 8), .lit (.int .u8 31), .lit (.int .u8 27), .lit (.int .u8 13), .lit (.int .u8 23), .lit (.int .u8 21), .lit (.int .u8 19), .lit (.int .u8 16), .lit (.int .u8 7), .lit (.int .u8 26), .lit (.int .u8 12), .lit (.int .u8 18), .lit (.int .u8 6), .lit (.int .u8 11), .lit (.int .u8 5), .lit (.int .u8 10), .lit (.int .u8 9)]
def laid_math_bits_deBruijn64tab {H : Type} : DataW H := .agg [.lit (.int .u8 0), .lit (.int .u8 1), .lit (.int .u8 56), .lit (.int .u8 2), .lit (.int .u8 57), .lit (.int .u8 49), .lit (.int .u8 28), .lit (.int .u8 3), .lit (.int .u8 61), .lit (.int .u8 58), .lit (.int .u8 42), .lit (.int .u8 50), .lit (.int .u8 38), .lit (.int .u8 29), .lit (.int .u8 17), .lit (.int .u8 4), .lit (.int .u8 62), .lit (.int .u8 47), .lit (.int .u8 59), .lit (.int .u8 36), .lit (.int .u8 45), .lit (.int .u8 43), .lit (.int .u8 51), .lit (.int .u8 22), .lit (.int .u8 53), .lit (.int .u8 39), .lit (.int .u8 33), .lit (.int .u8 30), .lit (.int .u8 24), .lit (.int .u8 18), .lit (.int .u8 12), .lit (.int .u8 5), .lit (.int .u8 63), .lit (.int .u8 55), .lit (.int .u8 48), .lit (.int .u8 27), .lit (.int .u8 60), .lit (.int .u8 41), .lit (.int .u8 37), .lit (.int .u8 16), .lit (.int .u8 46), .lit (.int .u8 35), .lit (.int .u8 44), .lit (.int .u8 21), .lit (.int .u8 52), .lit (.int .u8 32), .lit (.int .u8 23), .lit (.int .u8 11), .lit (.int .u8 54), .lit (.int .u8 26), .lit (.int .u8 40), .lit (.int .u8 15), .lit (.int .u8 34), .lit (.int .u8 20), .lit (.int .u8 31), .lit (.int .u8 10), .lit (.int .u8 25), .lit (.int .u8 14), .lit (.int .u8 19), .lit (.int .u8 9), .lit (.int .u8 13), .lit (.int .u8 8), .lit (.int .u8 7), .lit (.int .u8 6)]
def laid_internal_strconv_uint64pow10 {H : Type} : DataW H := .agg [.lit (.int .u64 1), .lit (.int .u64 10), .lit (.int .u64 100), .lit (.int .u64 1000), .lit (.int .u64 10000), .lit (.int .u64 100000), .lit (.int .u64 1000000), .lit (.int .u64 10000000), .lit (.int .u64 100000000), .lit (.int .u64 1000000000), .lit (.int .u64 10000000000), .lit (.int .u64 100000000000), .lit (.int .u64 1000000000000), .lit (.int .u64 10000000000000), .lit (.int .u64 100000000000000), .lit (.int .u64 1000000000000000), .lit (.int .u64 10000000000000000), .lit (.int .u64 100000000000000000), .lit (.int .u64 1000000000000000000), .lit (.int .u64 10000000000000000000)]

/-- 'cachetlaw05.CodeBytes': WHATEVER THE INPUT: true; the input reads as it did. -/
def codeBytesSpec : ChangeSpec := { name := "codeBytes", fn := fun _ => fun
  | [d] => { results := [.lit (.bool true)], args := [d] }
  | _ => none }
def codeBytesRow : OpenClaim := { program := "ytoalchlokcphkaadoor", sum := "ff611dd4fd331505fa31abacd519567338d0603a5406f3a13a0175a84679e7e0", func := "cachet/cachetlaw05.CodeBytes", spec := "codeBytes", unfollowed := true, recurses := true, named := ["cachet/code.ops"], apart := false, laid := [("cachet/code.ops", laid_cachet_code_ops)] }
def CodeBytesSaid : Prop := codeBytesRow.holds Tryd.pinned (OpenSpec.ofChange codeBytesSpec)

/-- ITS FALSE NEIGHBOUR: 'it returns false'. Refute it at one input. -/
def codeBytesWrong : ChangeSpec := { name := "codeBytes", fn := fun _ => fun
  | [d] => { results := [.lit (.bool false)], args := [d] }
  | _ => none }
def CodeBytesWrongFalsely : Prop := codeBytesRow.holds Tryd.pinned (OpenSpec.ofChange codeBytesWrong)

/-- 'cachetlaw05.CodeReads': WHATEVER THE INPUT: true; the input reads as it did. -/
def codeReadsSpec : ChangeSpec := { name := "codeReads", fn := fun _ => fun
  | [d] => { results := [.lit (.bool true)], args := [d] }
  | _ => none }
def codeReadsRow : OpenClaim := { program := "ytoalchlokcphkaadoor", sum := "ff611dd4fd331505fa31abacd519567338d0603a5406f3a13a0175a84679e7e0", func := "cachet/cachetlaw05.CodeReads", spec := "codeReads", unfollowed := true, recurses := true, named := ["cachet/code.ops"], apart := false, laid := [("cachet/code.ops", laid_cachet_code_ops)] }
def CodeReadsSaid : Prop := codeReadsRow.holds Tryd.pinned (OpenSpec.ofChange codeReadsSpec)

/-- ITS FALSE NEIGHBOUR: 'it returns false'. Refute it at one input. -/
def codeReadsWrong : ChangeSpec := { name := "codeReads", fn := fun _ => fun
  | [d] => { results := [.lit (.bool false)], args := [d] }
  | _ => none }
def CodeReadsWrongFalsely : Prop := codeReadsRow.holds Tryd.pinned (OpenSpec.ofChange codeReadsWrong)

/-- 'cachetlaw05.CodeTexts': WHATEVER THE INPUT: true; the input reads as it did. -/
def codeTextsSpec : ChangeSpec := { name := "codeTexts", fn := fun _ => fun
  | [d] => { results := [.lit (.bool true)], args := [d] }
  | _ => none }
def codeTextsRow : OpenClaim := { program := "ytoalchlokcphkaadoor", sum := "ff611dd4fd331505fa31abacd519567338d0603a5406f3a13a0175a84679e7e0", func := "cachet/cachetlaw05.CodeTexts", spec := "codeTexts", inPlace := ["internal/abi.NoEscape", "internal/bytealg.MakeNoZero"], unfollowed := true, recurses := true, named := ["cachet/code.ops", "internal/strconv.uint64pow10", "math/bits.deBruijn32tab", "math/bits.deBruijn64tab"], apart := false, laid := [("math/bits.deBruijn32tab", laid_math_bits_deBruijn32tab), ("math/bits.deBruijn64tab", laid_math_bits_deBruijn64tab), ("internal/strconv.uint64pow10", laid_internal_strconv_uint64pow10), ("cachet/code.ops", laid_cachet_code_ops)] }
def CodeTextsSaid : Prop := codeTextsRow.holds Tryd.pinned (OpenSpec.ofChange codeTextsSpec)

/-- ITS FALSE NEIGHBOUR: 'it returns false'. Refute it at one input. -/
def codeTextsWrong : ChangeSpec := { name := "codeTexts", fn := fun _ => fun
  | [d] => { results := [.lit (.bool false)], args := [d] }
  | _ => none }
def CodeTextsWrongFalsely : Prop := codeTextsRow.holds Tryd.pinned (OpenSpec.ofChange codeTextsWrong)

/-- 'cachetlaw05.CodeParts': WHATEVER THE INPUT: true; the input reads as it did. -/
def codePartsSpec : ChangeSpec := { name := "codeParts", fn := fun _ => fun
  | [d1, d2, d3] => { results := [.lit (.bool true)], args := [d1, d2, d3] }
  | _ => none }
def codePartsRow : OpenClaim := { program := "ytoalchlokcphkaadoor", sum := "ff611dd4fd331505fa31abacd519567338d0603a5406f3a13a0175a84679e7e0", func := "cachet/cachetlaw05.CodeParts", spec := "codeParts", unfollowed := true, recurses := true, named := ["cachet/code.ops"], apart := false, laid := [("cachet/code.ops", laid_cachet_code_ops)] }
def CodePartsSaid : Prop := codePartsRow.holds Tryd.pinned (OpenSpec.ofChange codePartsSpec)

/-- ITS FALSE NEIGHBOUR: 'it returns false'. Refute it at one input. -/
def codePartsWrong : ChangeSpec := { name := "codeParts", fn := fun _ => fun
  | [d1, d2, d3] => { results := [.lit (.bool false)], args := [d1, d2, d3] }
  | _ => none }
def CodePartsWrongFalsely : Prop := codePartsRow.holds Tryd.pinned (OpenSpec.ofChange codePartsWrong)

/-- 'cachetlaw05.CodeSizes': WHATEVER THE INPUT: true; the input reads as it did. -/
def codeSizesSpec : ChangeSpec := { name := "codeSizes", fn := fun _ => fun
  | [d1, d2] => { results := [.lit (.bool true)], args := [d1, d2] }
  | _ => none }
def codeSizesRow : OpenClaim := { program := "ytoalchlokcphkaadoor", sum := "ff611dd4fd331505fa31abacd519567338d0603a5406f3a13a0175a84679e7e0", func := "cachet/cachetlaw05.CodeSizes", spec := "codeSizes", unfollowed := true, recurses := true, named := ["cachet/code.ops"], apart := false, laid := [("cachet/code.ops", laid_cachet_code_ops)] }
def CodeSizesSaid : Prop := codeSizesRow.holds Tryd.pinned (OpenSpec.ofChange codeSizesSpec)

/-- ITS FALSE NEIGHBOUR: 'it returns false'. Refute it at one input. -/
def codeSizesWrong : ChangeSpec := { name := "codeSizes", fn := fun _ => fun
  | [d1, d2] => { results := [.lit (.bool false)], args := [d1, d2] }
  | _ => none }
def CodeSizesWrongFalsely : Prop := codeSizesRow.holds Tryd.pinned (OpenSpec.ofChange codeSizesWrong)

/-- 'cachetlaw05.CodeTable': WHATEVER THE INPUT: true; the input reads as it did. -/
def codeTableSpec : ChangeSpec := { name := "codeTable", fn := fun _ => fun
  | [d] => { results := [.lit (.bool true)], args := [d] }
  | _ => none }
def codeTableRow : OpenClaim := { program := "ytoalchlokcphkaadoor", sum := "ff611dd4fd331505fa31abacd519567338d0603a5406f3a13a0175a84679e7e0", func := "cachet/cachetlaw05.CodeTable", spec := "codeTable", unfollowed := true, recurses := true, named := ["cachet/code.ops"], apart := false, laid := [("cachet/code.ops", laid_cachet_code_ops)] }
def CodeTableSaid : Prop := codeTableRow.holds Tryd.pinned (OpenSpec.ofChange codeTableSpec)

/-- ITS FALSE NEIGHBOUR: 'it returns false'. Refute it at one input. -/
def codeTableWrong : ChangeSpec := { name := "codeTable", fn := fun _ => fun
  | [d] => { results := [.lit (.bool false)], args := [d] }
  | _ => none }
def CodeTableWrongFalsely : Prop := codeTableRow.holds Tryd.pinned (OpenSpec.ofChange codeTableWrong)

/-- 'cachetlaw05.CodeSpoilt': WHATEVER THE INPUT: true; the input reads as it did. -/
def codeSpoiltSpec : ChangeSpec := { name := "codeSpoilt", fn := fun _ => fun
  | [d1, d2, d3] => { results := [.lit (.bool true)], args := [d1, d2, d3] }
  | _ => none }
def codeSpoiltRow : OpenClaim := { program := "ytoalchlokcphkaadoor", sum := "ff611dd4fd331505fa31abacd519567338d0603a5406f3a13a0175a84679e7e0", func := "cachet/cachetlaw05.CodeSpoilt", spec := "codeSpoilt", unfollowed := true, recurses := true, named := ["cachet/code.ops"], apart := false, laid := [("cachet/code.ops", laid_cachet_code_ops)] }
def CodeSpoiltSaid : Prop := codeSpoiltRow.holds Tryd.pinned (OpenSpec.ofChange codeSpoiltSpec)

/-- ITS FALSE NEIGHBOUR: 'it returns false'. Refute it at one input. -/
def codeSpoiltWrong : ChangeSpec := { name := "codeSpoilt", fn := fun _ => fun
  | [d1, d2, d3] => { results := [.lit (.bool false)], args := [d1, d2, d3] }
  | _ => none }
def CodeSpoiltWrongFalsely : Prop := codeSpoiltRow.holds Tryd.pinned (OpenSpec.ofChange codeSpoiltWrong)

/-- 'cachetlaw05.CodeUnlike': WHATEVER THE INPUT: true; the input reads as it did. -/
def codeUnlikeSpec : ChangeSpec := { name := "codeUnlike", fn := fun _ => fun
  | [d1, d2] => { results := [.lit (.bool true)], args := [d1, d2] }
  | _ => none }
def codeUnlikeRow : OpenClaim := { program := "ytoalchlokcphkaadoor", sum := "ff611dd4fd331505fa31abacd519567338d0603a5406f3a13a0175a84679e7e0", func := "cachet/cachetlaw05.CodeUnlike", spec := "codeUnlike", inPlace := ["internal/abi.NoEscape", "internal/bytealg.MakeNoZero"], unfollowed := true, recurses := true, named := ["cachet/code.ops", "internal/strconv.uint64pow10", "math/bits.deBruijn32tab", "math/bits.deBruijn64tab"], apart := false, laid := [("math/bits.deBruijn32tab", laid_math_bits_deBruijn32tab), ("math/bits.deBruijn64tab", laid_math_bits_deBruijn64tab), ("internal/strconv.uint64pow10", laid_internal_strconv_uint64pow10), ("cachet/code.ops", laid_cachet_code_ops)] }
def CodeUnlikeSaid : Prop := codeUnlikeRow.holds Tryd.pinned (OpenSpec.ofChange codeUnlikeSpec)

/-- ITS FALSE NEIGHBOUR: 'it returns false'. Refute it at one input. -/
def codeUnlikeWrong : ChangeSpec := { name := "codeUnlike", fn := fun _ => fun
  | [d1, d2] => { results := [.lit (.bool false)], args := [d1, d2] }
  | _ => none }
def CodeUnlikeWrongFalsely : Prop := codeUnlikeRow.holds Tryd.pinned (OpenSpec.ofChange codeUnlikeWrong)

/- THE SECOND FORM. 'bulk': how many values and letters a reading holds, each counted each time it is reached (what is shared counts as often as it is met; a slice's spare places count too). A statement '..UptoSaid' is the law's where the arguments, and the package variables that the reading takes, are together of bulk at most 1048576: NARROWER than '..Said'. Prove '..Said' where nothing that the law and all that it calls make is longer than what came in: it says more and counts as full. Else prove '..UptoSaid'. A law counts once. -/
mutual
def uptoBulk {H : Type} : DataW H → Nat
  | .lit (.string bytes) => bytes.length + 1
  | .lit _ => 1
  | .nil => 1
  | .ptr d => uptoBulk d + 1
  | .slice elems spare => uptoBulkAll elems + uptoBulkAll spare + 1
  | .agg parts => uptoBulkAll parts + 1
  | .iface _ d => uptoBulk d + 1
  | .map entries => uptoBulkEntries entries + 1
  | .held _ => 1
def uptoBulkAll {H : Type} : List (DataW H) → Nat
  | [] => 0
  | d :: r => uptoBulk d + uptoBulkAll r
def uptoBulkEntries {H : Type} : List (Lit × DataW H) → Nat
  | [] => 0
  | x :: r => uptoBulkEntry x + uptoBulkEntries r
def uptoBulkEntry {H : Type} : Lit × DataW H → Nat
  | (.string bytes, d) => bytes.length + uptoBulk d + 1
  | (_, d) => uptoBulk d + 1
 end
def uptoSmall : (H : Type) → List (DataW H) → Bool := fun _ ds => decide (uptoBulkAll ds ≤ 1048576)
def OpenSpec.upto (s : _root_.Go.ChangeSpec) : _root_.Go.OpenSpec := { _root_.Go.OpenSpec.ofChange s with cond := some uptoSmall }

/-- 'cachetlaw05.CodeBytes', WHERE WHAT IT READS IS OF BULK AT MOST 1048576: true; the input reads as it did. -/
def codeBytesUptoRow : OpenClaim := { program := "ytoalchlokcphkaadoor", sum := "ff611dd4fd331505fa31abacd519567338d0603a5406f3a13a0175a84679e7e0", func := "cachet/cachetlaw05.CodeBytes", spec := "codeBytes", unfollowed := true, recurses := true, named := ["cachet/code.ops"], apart := false, laid := [("cachet/code.ops", laid_cachet_code_ops)], narrowed := true }
def CodeBytesUptoSaid : Prop := codeBytesUptoRow.holds Tryd.pinned (OpenSpec.upto codeBytesSpec)

/-- 'cachetlaw05.CodeReads', WHERE WHAT IT READS IS OF BULK AT MOST 1048576: true; the input reads as it did. -/
def codeReadsUptoRow : OpenClaim := { program := "ytoalchlokcphkaadoor", sum := "ff611dd4fd331505fa31abacd519567338d0603a5406f3a13a0175a84679e7e0", func := "cachet/cachetlaw05.CodeReads", spec := "codeReads", unfollowed := true, recurses := true, named := ["cachet/code.ops"], apart := false, laid := [("cachet/code.ops", laid_cachet_code_ops)], narrowed := true }
def CodeReadsUptoSaid : Prop := codeReadsUptoRow.holds Tryd.pinned (OpenSpec.upto codeReadsSpec)

/-- 'cachetlaw05.CodeTexts', WHERE WHAT IT READS IS OF BULK AT MOST 1048576: true; the input reads as it did. -/
def codeTextsUptoRow : OpenClaim := { program := "ytoalchlokcphkaadoor", sum := "ff611dd4fd331505fa31abacd519567338d0603a5406f3a13a0175a84679e7e0", func := "cachet/cachetlaw05.CodeTexts", spec := "codeTexts", inPlace := ["internal/abi.NoEscape", "internal/bytealg.MakeNoZero"], unfollowed := true, recurses := true, named := ["cachet/code.ops", "internal/strconv.uint64pow10", "math/bits.deBruijn32tab", "math/bits.deBruijn64tab"], apart := false, laid := [("math/bits.deBruijn32tab", laid_math_bits_deBruijn32tab), ("math/bits.deBruijn64tab", laid_math_bits_deBruijn64tab), ("internal/strconv.uint64pow10", laid_internal_strconv_uint64pow10), ("cachet/code.ops", laid_cachet_code_ops)], narrowed := true }
def CodeTextsUptoSaid : Prop := codeTextsUptoRow.holds Tryd.pinned (OpenSpec.upto codeTextsSpec)

/-- 'cachetlaw05.CodeParts', WHERE WHAT IT READS IS OF BULK AT MOST 1048576: true; the input reads as it did. -/
def codePartsUptoRow : OpenClaim := { program := "ytoalchlokcphkaadoor", sum := "ff611dd4fd331505fa31abacd519567338d0603a5406f3a13a0175a84679e7e0", func := "cachet/cachetlaw05.CodeParts", spec := "codeParts", unfollowed := true, recurses := true, named := ["cachet/code.ops"], apart := false, laid := [("cachet/code.ops", laid_cachet_code_ops)], narrowed := true }
def CodePartsUptoSaid : Prop := codePartsUptoRow.holds Tryd.pinned (OpenSpec.upto codePartsSpec)

/-- 'cachetlaw05.CodeSizes', WHERE WHAT IT READS IS OF BULK AT MOST 1048576: true; the input reads as it did. -/
def codeSizesUptoRow : OpenClaim := { program := "ytoalchlokcphkaadoor", sum := "ff611dd4fd331505fa31abacd519567338d0603a5406f3a13a0175a84679e7e0", func := "cachet/cachetlaw05.CodeSizes", spec := "codeSizes", unfollowed := true, recurses := true, named := ["cachet/code.ops"], apart := false, laid := [("cachet/code.ops", laid_cachet_code_ops)], narrowed := true }
def CodeSizesUptoSaid : Prop := codeSizesUptoRow.holds Tryd.pinned (OpenSpec.upto codeSizesSpec)

/-- 'cachetlaw05.CodeTable', WHERE WHAT IT READS IS OF BULK AT MOST 1048576: true; the input reads as it did. -/
def codeTableUptoRow : OpenClaim := { program := "ytoalchlokcphkaadoor", sum := "ff611dd4fd331505fa31abacd519567338d0603a5406f3a13a0175a84679e7e0", func := "cachet/cachetlaw05.CodeTable", spec := "codeTable", unfollowed := true, recurses := true, named := ["cachet/code.ops"], apart := false, laid := [("cachet/code.ops", laid_cachet_code_ops)], narrowed := true }
def CodeTableUptoSaid : Prop := codeTableUptoRow.holds Tryd.pinned (OpenSpec.upto codeTableSpec)

/-- 'cachetlaw05.CodeSpoilt', WHERE WHAT IT READS IS OF BULK AT MOST 1048576: true; the input reads as it did. -/
def codeSpoiltUptoRow : OpenClaim := { program := "ytoalchlokcphkaadoor", sum := "ff611dd4fd331505fa31abacd519567338d0603a5406f3a13a0175a84679e7e0", func := "cachet/cachetlaw05.CodeSpoilt", spec := "codeSpoilt", unfollowed := true, recurses := true, named := ["cachet/code.ops"], apart := false, laid := [("cachet/code.ops", laid_cachet_code_ops)], narrowed := true }
def CodeSpoiltUptoSaid : Prop := codeSpoiltUptoRow.holds Tryd.pinned (OpenSpec.upto codeSpoiltSpec)

/-- 'cachetlaw05.CodeUnlike', WHERE WHAT IT READS IS OF BULK AT MOST 1048576: true; the input reads as it did. -/
def codeUnlikeUptoRow : OpenClaim := { program := "ytoalchlokcphkaadoor", sum := "ff611dd4fd331505fa31abacd519567338d0603a5406f3a13a0175a84679e7e0", func := "cachet/cachetlaw05.CodeUnlike", spec := "codeUnlike", inPlace := ["internal/abi.NoEscape", "internal/bytealg.MakeNoZero"], unfollowed := true, recurses := true, named := ["cachet/code.ops", "internal/strconv.uint64pow10", "math/bits.deBruijn32tab", "math/bits.deBruijn64tab"], apart := false, laid := [("math/bits.deBruijn32tab", laid_math_bits_deBruijn32tab), ("math/bits.deBruijn64tab", laid_math_bits_deBruijn64tab), ("internal/strconv.uint64pow10", laid_internal_strconv_uint64pow10), ("cachet/code.ops", laid_cachet_code_ops)], narrowed := true }
def CodeUnlikeUptoSaid : Prop := codeUnlikeUptoRow.holds Tryd.pinned (OpenSpec.upto codeUnlikeSpec)

end Rows
end Go.Proofs.YtoalchlokcphkaaDoor
