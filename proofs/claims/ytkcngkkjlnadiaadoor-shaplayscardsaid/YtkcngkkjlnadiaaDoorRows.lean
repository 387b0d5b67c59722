/-
  NARROWER THAN 'FOR EVERY INPUT', by the rows' own cells (each row's printed sentence says how): ShaSums: laid · ShaParts: laid · ShaTexts: laid · ShaOrders: laid · ShaPlays: laid · ShaLong: laid · ShaTails: laid · ShaKnown: laid · ShaBlocks: laid · ShaDigits: laid · ShaCopied: laid · ShaCuts: laid.
  DERIVED. THE GIVEN ROWS OF THIS SEAT. 12 by the template 'for every input the law returns true; each argument reads behind the call as it read before'; 0 by the template 'total and deterministic' (their statements: YtkcngkkjlnadiaaDoorTotals.lean).
  GIVEN WITH THE SEED: the statements are not yours to turn. If you find one false, say at which input.
  Laid BY PROGRAM, IN A SANDBOX (cutbox-rows.mjs): the forced cells as the released guide's own fill.sh prints them over the translation 4f90c401edef7caf… (all of the seat's roots in one cut). By AI agents, Wed Nov 11 2026. No macro, syntax, notation, axiom, sorry.
-/
import Derived.Test.YtkcngkkjlnadiaaDoorChecked
import GoSem.Claim
import GoSem.ClaimJoined
import GoSem.ClaimMapViews
import Derived.JoinedTies
import Derived.KernelRfl
namespace Go.Proofs.YtkcngkkjlnadiaaDoor
/- THE CELL 'sum', in the pinned program and in every row, IS THE sha256 OF THE DUMP (.gsa) THAT YtkcngkkjlnadiaaDoorProg.lean LOADS. Nothing in Lean hashes anything: it is a label: what it is worth is what the hold of that sum in a sandbox is worth. -/
noncomputable def Tryd.pinned : Pinned := { name := "ytkcngkkjlnadiaadoor", sum := "4f90c401edef7cafbd7cd69e07f182839c4c8b8449d70aead70b0d6df2847972", checked := Tryd.checked }
namespace Rows
def none {H : Type} : Left H := { results := [], args := [] }

/- WHAT THE LISTED PACKAGE-LEVEL VARIABLES READ AS WHEN THE CALL BEGINS. Each datum BY PROGRAM (the guide's laid-datum.mjs) off the statement by which the dump's own 'gosem.cut.vars' lays the variable. In a bare row this is a premise. The card (YtkcngkkjlnadiaaDoorCards.lean) ties it to the program's text. -/
def laid_cachet_sha_squareWords {H : Type} : DataW H := .agg [.lit (.int .u32 1779033703), .lit (.int .u32 3144134277), .lit (.int .u32 1013904242), .lit (.int .u32 2773480762), .lit (.int .u32 1359893119), .lit (.int .u32 2600822924), .lit (.int .u32 528734635), .lit (.int .u32 1541459225)]
def laid_cachet_sha_cubeWords {H : Type} : DataW H := .agg [.lit (.int .u32 1116352408), .lit (.int .u32 1899447441), .lit (.int .u32 3049323471), .lit (.int .u32 3921009573), .lit (.int .u32 961987163), .lit (.int .u32 1508970993), .lit (.int .u32 2453635748), .lit (.int .u32 2870763221), .lit (.int .u32 3624381080), .lit (.int .u32 310598401), .lit (.int .u32 607225278), .lit (.int .u32 1426881987), .lit (.int .u32 1925078388), .lit (.int .u32 2162078206), .lit (.int .u32 2614888103), .lit (.int .u32 3248222580), .lit (.int .u32 3835390401), .lit (.int .u32 4022224774), .lit (.int .u32 264347078), .lit (.int .u32 604807628), .lit (.int .u32 770255983), .lit (.int .u32 1249150122), .lit (.int .u32 1555081692), .lit (.int .u32 1996064986), .lit (.int .u32 2554220882), .lit (.int .u32 2821834349), .lit (.int .u32 2952996808), .lit (.int .u32 3210313671), .lit (.int .u32 3336571891), .lit (.int .u32 3584528711), .lit (.int .u32 113926993), .lit (.int .u32 338241895), .lit (.int .u32 666307205), .lit (.int .u32 773529912), .lit (.int .u32 1294757372), .lit (.int .u32 1396182291), .lit (.int .u32 1695183700), .lit (.int .u32 1986661051), .lit (.int .u32 2177026350), .lit (.int .u32 2456956037), .lit (.int .u32 2730485921), .lit (.int .u32 2820302411), .lit (.int .u32 3259730800), .lit (.int .u32 3345764771), .lit (.int .u32 3516065817), .lit (.int .u32 3600352804), .lit (.int .u32 4094571909), .lit (.int .u32 275423344), .lit (.int .u32 430227734), .lit (.int .u32 506948616), .lit (.int .u32 659060556), .lit (.int .u32 883997877), .lit (.int .u32 958139571), .lit (.int .u32 1322822218), .lit (.int .u32 1537002063), .lit (.int .u32 1747873779), .lit (.int .u32 1955562222), .lit (.int .u32 2024104815), .lit (.int .u32 2227730452), .lit (.int .u32 2361852424), .lit (.int .u32 2428436474), .lit (.int .u32 2756734187), .lit (.int .u32 3204031479), .lit (.int .u32 3329325298)]

/-- 'cachetlaw01.ShaSums': WHATEVER THE INPUT: true; the input reads as it did. -/
def shaSumsSpec : ChangeSpec := { name := "shaSums", fn := fun _ => fun
  | [d] => { results := [.lit (.bool true)], args := [d] }
  | _ => none }
def shaSumsRow : OpenClaim := { program := "ytkcngkkjlnadiaadoor", sum := "4f90c401edef7cafbd7cd69e07f182839c4c8b8449d70aead70b0d6df2847972", func := "cachet/cachetlaw01.ShaSums", spec := "shaSums", unfollowed := true, recurses := true, named := ["cachet/sha.squareWords", "cachet/sha.cubeWords"], apart := false, laid := [("cachet/sha.squareWords", laid_cachet_sha_squareWords), ("cachet/sha.cubeWords", laid_cachet_sha_cubeWords)] }
def ShaSumsSaid : Prop := shaSumsRow.holds Tryd.pinned (OpenSpec.ofChange shaSumsSpec)

/-- ITS FALSE NEIGHBOUR: 'it returns false'. Refute it at one input. -/
def shaSumsWrong : ChangeSpec := { name := "shaSums", fn := fun _ => fun
  | [d] => { results := [.lit (.bool false)], args := [d] }
  | _ => none }
def ShaSumsWrongFalsely : Prop := shaSumsRow.holds Tryd.pinned (OpenSpec.ofChange shaSumsWrong)

/-- 'cachetlaw01.ShaParts': WHATEVER THE INPUT: true; the input reads as it did. -/
def shaPartsSpec : ChangeSpec := { name := "shaParts", fn := fun _ => fun
  | [d] => { results := [.lit (.bool true)], args := [d] }
  | _ => none }
def shaPartsRow : OpenClaim := { program := "ytkcngkkjlnadiaadoor", sum := "4f90c401edef7cafbd7cd69e07f182839c4c8b8449d70aead70b0d6df2847972", func := "cachet/cachetlaw01.ShaParts", spec := "shaParts", unfollowed := true, recurses := true, named := ["cachet/sha.squareWords", "cachet/sha.cubeWords"], apart := false, laid := [("cachet/sha.squareWords", laid_cachet_sha_squareWords), ("cachet/sha.cubeWords", laid_cachet_sha_cubeWords)] }
def ShaPartsSaid : Prop := shaPartsRow.holds Tryd.pinned (OpenSpec.ofChange shaPartsSpec)

/-- ITS FALSE NEIGHBOUR: 'it returns false'. Refute it at one input. -/
def shaPartsWrong : ChangeSpec := { name := "shaParts", fn := fun _ => fun
  | [d] => { results := [.lit (.bool false)], args := [d] }
  | _ => none }
def ShaPartsWrongFalsely : Prop := shaPartsRow.holds Tryd.pinned (OpenSpec.ofChange shaPartsWrong)

/-- 'cachetlaw01.ShaTexts': WHATEVER THE INPUT: true; the input reads as it did. -/
def shaTextsSpec : ChangeSpec := { name := "shaTexts", fn := fun _ => fun
  | [d1, d2] => { results := [.lit (.bool true)], args := [d1, d2] }
  | _ => none }
def shaTextsRow : OpenClaim := { program := "ytkcngkkjlnadiaadoor", sum := "4f90c401edef7cafbd7cd69e07f182839c4c8b8449d70aead70b0d6df2847972", func := "cachet/cachetlaw01.ShaTexts", spec := "shaTexts", unfollowed := true, recurses := true, named := ["cachet/sha.squareWords", "cachet/sha.cubeWords"], apart := false, laid := [("cachet/sha.squareWords", laid_cachet_sha_squareWords), ("cachet/sha.cubeWords", laid_cachet_sha_cubeWords)] }
def ShaTextsSaid : Prop := shaTextsRow.holds Tryd.pinned (OpenSpec.ofChange shaTextsSpec)

/-- ITS FALSE NEIGHBOUR: 'it returns false'. Refute it at one input. -/
def shaTextsWrong : ChangeSpec := { name := "shaTexts", fn := fun _ => fun
  | [d1, d2] => { results := [.lit (.bool false)], args := [d1, d2] }
  | _ => none }
def ShaTextsWrongFalsely : Prop := shaTextsRow.holds Tryd.pinned (OpenSpec.ofChange shaTextsWrong)

/-- 'cachetlaw01.ShaOrders': WHATEVER THE INPUT: true; the input reads as it did. -/
def shaOrdersSpec : ChangeSpec := { name := "shaOrders", fn := fun _ => fun
  | [d1, d2] => { results := [.lit (.bool true)], args := [d1, d2] }
  | _ => none }
def shaOrdersRow : OpenClaim := { program := "ytkcngkkjlnadiaadoor", sum := "4f90c401edef7cafbd7cd69e07f182839c4c8b8449d70aead70b0d6df2847972", func := "cachet/cachetlaw01.ShaOrders", spec := "shaOrders", unfollowed := true, recurses := true, named := ["cachet/sha.squareWords", "cachet/sha.cubeWords"], apart := false, laid := [("cachet/sha.squareWords", laid_cachet_sha_squareWords), ("cachet/sha.cubeWords", laid_cachet_sha_cubeWords)] }
def ShaOrdersSaid : Prop := shaOrdersRow.holds Tryd.pinned (OpenSpec.ofChange shaOrdersSpec)

/-- ITS FALSE NEIGHBOUR: 'it returns false'. Refute it at one input. -/
def shaOrdersWrong : ChangeSpec := { name := "shaOrders", fn := fun _ => fun
  | [d1, d2] => { results := [.lit (.bool false)], args := [d1, d2] }
  | _ => none }
def ShaOrdersWrongFalsely : Prop := shaOrdersRow.holds Tryd.pinned (OpenSpec.ofChange shaOrdersWrong)

/-- 'cachetlaw01.ShaPlays': WHATEVER THE INPUT: true; the input reads as it did. -/
def shaPlaysSpec : ChangeSpec := { name := "shaPlays", fn := fun _ => fun
  | [d] => { results := [.lit (.bool true)], args := [d] }
  | _ => none }
def shaPlaysRow : OpenClaim := { program := "ytkcngkkjlnadiaadoor", sum := "4f90c401edef7cafbd7cd69e07f182839c4c8b8449d70aead70b0d6df2847972", func := "cachet/cachetlaw01.ShaPlays", spec := "shaPlays", unfollowed := true, recurses := true, named := ["cachet/sha.squareWords", "cachet/sha.cubeWords"], apart := false, laid := [("cachet/sha.squareWords", laid_cachet_sha_squareWords), ("cachet/sha.cubeWords", laid_cachet_sha_cubeWords)] }
def ShaPlaysSaid : Prop := shaPlaysRow.holds Tryd.pinned (OpenSpec.ofChange shaPlaysSpec)

/-- ITS FALSE NEIGHBOUR: 'it returns false'. Refute it at one input. -/
def shaPlaysWrong : ChangeSpec := { name := "shaPlays", fn := fun _ => fun
  | [d] => { results := [.lit (.bool false)], args := [d] }
  | _ => none }
def ShaPlaysWrongFalsely : Prop := shaPlaysRow.holds Tryd.pinned (OpenSpec.ofChange shaPlaysWrong)

/-- 'cachetlaw01.ShaLong': WHATEVER THE INPUT: true; the input reads as it did. -/
def shaLongSpec : ChangeSpec := { name := "shaLong", fn := fun _ => fun
  | [d1, d2] => { results := [.lit (.bool true)], args := [d1, d2] }
  | _ => none }
def shaLongRow : OpenClaim := { program := "ytkcngkkjlnadiaadoor", sum := "4f90c401edef7cafbd7cd69e07f182839c4c8b8449d70aead70b0d6df2847972", func := "cachet/cachetlaw01.ShaLong", spec := "shaLong", unfollowed := true, recurses := true, named := ["cachet/sha.squareWords", "cachet/sha.cubeWords"], apart := false, laid := [("cachet/sha.squareWords", laid_cachet_sha_squareWords), ("cachet/sha.cubeWords", laid_cachet_sha_cubeWords)] }
def ShaLongSaid : Prop := shaLongRow.holds Tryd.pinned (OpenSpec.ofChange shaLongSpec)

/-- ITS FALSE NEIGHBOUR: 'it returns false'. Refute it at one input. -/
def shaLongWrong : ChangeSpec := { name := "shaLong", fn := fun _ => fun
  | [d1, d2] => { results := [.lit (.bool false)], args := [d1, d2] }
  | _ => none }
def ShaLongWrongFalsely : Prop := shaLongRow.holds Tryd.pinned (OpenSpec.ofChange shaLongWrong)

/-- 'cachetlaw01.ShaTails': WHATEVER THE INPUT: true; the input reads as it did. -/
def shaTailsSpec : ChangeSpec := { name := "shaTails", fn := fun _ => fun
  | [d1, d2] => { results := [.lit (.bool true)], args := [d1, d2] }
  | _ => none }
def shaTailsRow : OpenClaim := { program := "ytkcngkkjlnadiaadoor", sum := "4f90c401edef7cafbd7cd69e07f182839c4c8b8449d70aead70b0d6df2847972", func := "cachet/cachetlaw01.ShaTails", spec := "shaTails", unfollowed := true, recurses := true, named := ["cachet/sha.squareWords", "cachet/sha.cubeWords"], apart := false, laid := [("cachet/sha.squareWords", laid_cachet_sha_squareWords), ("cachet/sha.cubeWords", laid_cachet_sha_cubeWords)] }
def ShaTailsSaid : Prop := shaTailsRow.holds Tryd.pinned (OpenSpec.ofChange shaTailsSpec)

/-- ITS FALSE NEIGHBOUR: 'it returns false'. Refute it at one input. -/
def shaTailsWrong : ChangeSpec := { name := "shaTails", fn := fun _ => fun
  | [d1, d2] => { results := [.lit (.bool false)], args := [d1, d2] }
  | _ => none }
def ShaTailsWrongFalsely : Prop := shaTailsRow.holds Tryd.pinned (OpenSpec.ofChange shaTailsWrong)

/-- 'cachetlaw01.ShaKnown': WHATEVER THE INPUT: true; the input reads as it did. -/
def shaKnownSpec : ChangeSpec := { name := "shaKnown", fn := fun _ => fun
  | [] => { results := [.lit (.bool true)], args := [] }
  | _ => none }
def shaKnownRow : OpenClaim := { program := "ytkcngkkjlnadiaadoor", sum := "4f90c401edef7cafbd7cd69e07f182839c4c8b8449d70aead70b0d6df2847972", func := "cachet/cachetlaw01.ShaKnown", spec := "shaKnown", unfollowed := true, recurses := true, named := ["cachet/sha.squareWords", "cachet/sha.cubeWords"], apart := false, laid := [("cachet/sha.squareWords", laid_cachet_sha_squareWords), ("cachet/sha.cubeWords", laid_cachet_sha_cubeWords)] }
def ShaKnownSaid : Prop := shaKnownRow.holds Tryd.pinned (OpenSpec.ofChange shaKnownSpec)

/-- ITS FALSE NEIGHBOUR: 'it returns false'. Refute it at one input. -/
def shaKnownWrong : ChangeSpec := { name := "shaKnown", fn := fun _ => fun
  | [] => { results := [.lit (.bool false)], args := [] }
  | _ => none }
def ShaKnownWrongFalsely : Prop := shaKnownRow.holds Tryd.pinned (OpenSpec.ofChange shaKnownWrong)

/-- 'cachetlaw01.ShaBlocks': WHATEVER THE INPUT: true; the input reads as it did. -/
def shaBlocksSpec : ChangeSpec := { name := "shaBlocks", fn := fun _ => fun
  | [d1, d2, d3] => { results := [.lit (.bool true)], args := [d1, d2, d3] }
  | _ => none }
def shaBlocksRow : OpenClaim := { program := "ytkcngkkjlnadiaadoor", sum := "4f90c401edef7cafbd7cd69e07f182839c4c8b8449d70aead70b0d6df2847972", func := "cachet/cachetlaw01.ShaBlocks", spec := "shaBlocks", unfollowed := true, recurses := true, named := ["cachet/sha.squareWords", "cachet/sha.cubeWords"], apart := false, laid := [("cachet/sha.squareWords", laid_cachet_sha_squareWords), ("cachet/sha.cubeWords", laid_cachet_sha_cubeWords)] }
def ShaBlocksSaid : Prop := shaBlocksRow.holds Tryd.pinned (OpenSpec.ofChange shaBlocksSpec)

/-- ITS FALSE NEIGHBOUR: 'it returns false'. Refute it at one input. -/
def shaBlocksWrong : ChangeSpec := { name := "shaBlocks", fn := fun _ => fun
  | [d1, d2, d3] => { results := [.lit (.bool false)], args := [d1, d2, d3] }
  | _ => none }
def ShaBlocksWrongFalsely : Prop := shaBlocksRow.holds Tryd.pinned (OpenSpec.ofChange shaBlocksWrong)

/-- 'cachetlaw01.ShaDigits': WHATEVER THE INPUT: true; the input reads as it did. -/
def shaDigitsSpec : ChangeSpec := { name := "shaDigits", fn := fun _ => fun
  | [d1, d2, d3] => { results := [.lit (.bool true)], args := [d1, d2, d3] }
  | _ => none }
def shaDigitsRow : OpenClaim := { program := "ytkcngkkjlnadiaadoor", sum := "4f90c401edef7cafbd7cd69e07f182839c4c8b8449d70aead70b0d6df2847972", func := "cachet/cachetlaw01.ShaDigits", spec := "shaDigits", unfollowed := true, recurses := true, named := ["cachet/sha.squareWords", "cachet/sha.cubeWords"], apart := false, laid := [("cachet/sha.squareWords", laid_cachet_sha_squareWords), ("cachet/sha.cubeWords", laid_cachet_sha_cubeWords)] }
def ShaDigitsSaid : Prop := shaDigitsRow.holds Tryd.pinned (OpenSpec.ofChange shaDigitsSpec)

/-- ITS FALSE NEIGHBOUR: 'it returns false'. Refute it at one input. -/
def shaDigitsWrong : ChangeSpec := { name := "shaDigits", fn := fun _ => fun
  | [d1, d2, d3] => { results := [.lit (.bool false)], args := [d1, d2, d3] }
  | _ => none }
def ShaDigitsWrongFalsely : Prop := shaDigitsRow.holds Tryd.pinned (OpenSpec.ofChange shaDigitsWrong)

/-- 'cachetlaw01.ShaCopied': WHATEVER THE INPUT: true; the input reads as it did. -/
def shaCopiedSpec : ChangeSpec := { name := "shaCopied", fn := fun _ => fun
  | [d1, d2, d3] => { results := [.lit (.bool true)], args := [d1, d2, d3] }
  | _ => none }
def shaCopiedRow : OpenClaim := { program := "ytkcngkkjlnadiaadoor", sum := "4f90c401edef7cafbd7cd69e07f182839c4c8b8449d70aead70b0d6df2847972", func := "cachet/cachetlaw01.ShaCopied", spec := "shaCopied", unfollowed := true, recurses := true, named := ["cachet/sha.squareWords", "cachet/sha.cubeWords"], apart := false, laid := [("cachet/sha.squareWords", laid_cachet_sha_squareWords), ("cachet/sha.cubeWords", laid_cachet_sha_cubeWords)] }
def ShaCopiedSaid : Prop := shaCopiedRow.holds Tryd.pinned (OpenSpec.ofChange shaCopiedSpec)

/-- ITS FALSE NEIGHBOUR: 'it returns false'. Refute it at one input. -/
def shaCopiedWrong : ChangeSpec := { name := "shaCopied", fn := fun _ => fun
  | [d1, d2, d3] => { results := [.lit (.bool false)], args := [d1, d2, d3] }
  | _ => none }
def ShaCopiedWrongFalsely : Prop := shaCopiedRow.holds Tryd.pinned (OpenSpec.ofChange shaCopiedWrong)

/-- 'cachetlaw01.ShaCuts': WHATEVER THE INPUT: true; the input reads as it did. -/
def shaCutsSpec : ChangeSpec := { name := "shaCuts", fn := fun _ => fun
  | [d1, d2, d3] => { results := [.lit (.bool true)], args := [d1, d2, d3] }
  | _ => none }
def shaCutsRow : OpenClaim := { program := "ytkcngkkjlnadiaadoor", sum := "4f90c401edef7cafbd7cd69e07f182839c4c8b8449d70aead70b0d6df2847972", func := "cachet/cachetlaw01.ShaCuts", spec := "shaCuts", unfollowed := true, recurses := true, named := ["cachet/sha.squareWords", "cachet/sha.cubeWords"], apart := false, laid := [("cachet/sha.squareWords", laid_cachet_sha_squareWords), ("cachet/sha.cubeWords", laid_cachet_sha_cubeWords)] }
def ShaCutsSaid : Prop := shaCutsRow.holds Tryd.pinned (OpenSpec.ofChange shaCutsSpec)

/-- ITS FALSE NEIGHBOUR: 'it returns false'. Refute it at one input. -/
def shaCutsWrong : ChangeSpec := { name := "shaCuts", fn := fun _ => fun
  | [d1, d2, d3] => { results := [.lit (.bool false)], args := [d1, d2, d3] }
  | _ => none }
def ShaCutsWrongFalsely : Prop := shaCutsRow.holds Tryd.pinned (OpenSpec.ofChange shaCutsWrong)

/- THE SECOND FORM. 'bulk': how many values and letters a reading holds, each counted each time it is reached (what is shared counts as often as it is met; a slice's spare places count too). A statement '..UptoSaid' is the law's where the arguments, and the package variables that the reading takes, are together of bulk at most 1048576: NARROWER than '..Said'. Prove '..Said' where nothing that the law and all that it calls make is longer than what came in: it says more and counts as full. Else prove '..UptoSaid'. A law counts once. -/
mutual
def uptoBulk {H : Type} : DataW H → Nat
  | .lit (.string bytes) => bytes.length + 1
  | .lit _ => 1
  | .nil => 1
  | .ptr d => uptoBulk d + 1
  | .slice elems spare => uptoBulkAll elems + uptoBulkAll spare + 1
  | .agg parts => uptoBulkAll parts + 1
  | .iface _ d => uptoBulk d + 1
  | .map entries => uptoBulkEntries entries + 1
  | .held _ => 1
def uptoBulkAll {H : Type} : List (DataW H) → Nat
  | [] => 0
  | d :: r => uptoBulk d + uptoBulkAll r
def uptoBulkEntries {H : Type} : List (Lit × DataW H) → Nat
  | [] => 0
  | x :: r => uptoBulkEntry x + uptoBulkEntries r
def uptoBulkEntry {H : Type} : Lit × DataW H → Nat
  | (.string bytes, d) => bytes.length + uptoBulk d + 1
  | (_, d) => uptoBulk d + 1
 end
def uptoSmall : (H : Type) → List (DataW H) → Bool := fun _ ds => decide (uptoBulkAll ds ≤ 1048576)
def OpenSpec.upto (s : _root_.Go.ChangeSpec) : _root_.Go.OpenSpec := { _root_.Go.OpenSpec.ofChange s with cond := some uptoSmall }

/-- 'cachetlaw01.ShaSums', WHERE WHAT IT READS IS OF BULK AT MOST 1048576: true; the input reads as it did. -/
def shaSumsUptoRow : OpenClaim := { program := "ytkcngkkjlnadiaadoor", sum := "4f90c401edef7cafbd7cd69e07f182839c4c8b8449d70aead70b0d6df2847972", func := "cachet/cachetlaw01.ShaSums", spec := "shaSums", unfollowed := true, recurses := true, named := ["cachet/sha.squareWords", "cachet/sha.cubeWords"], apart := false, laid := [("cachet/sha.squareWords", laid_cachet_sha_squareWords), ("cachet/sha.cubeWords", laid_cachet_sha_cubeWords)], narrowed := true }
def ShaSumsUptoSaid : Prop := shaSumsUptoRow.holds Tryd.pinned (OpenSpec.upto shaSumsSpec)

/-- 'cachetlaw01.ShaParts', WHERE WHAT IT READS IS OF BULK AT MOST 1048576: true; the input reads as it did. -/
def shaPartsUptoRow : OpenClaim := { program := "ytkcngkkjlnadiaadoor", sum := "4f90c401edef7cafbd7cd69e07f182839c4c8b8449d70aead70b0d6df2847972", func := "cachet/cachetlaw01.ShaParts", spec := "shaParts", unfollowed := true, recurses := true, named := ["cachet/sha.squareWords", "cachet/sha.cubeWords"], apart := false, laid := [("cachet/sha.squareWords", laid_cachet_sha_squareWords), ("cachet/sha.cubeWords", laid_cachet_sha_cubeWords)], narrowed := true }
def ShaPartsUptoSaid : Prop := shaPartsUptoRow.holds Tryd.pinned (OpenSpec.upto shaPartsSpec)

/-- 'cachetlaw01.ShaTexts', WHERE WHAT IT READS IS OF BULK AT MOST 1048576: true; the input reads as it did. -/
def shaTextsUptoRow : OpenClaim := { program := "ytkcngkkjlnadiaadoor", sum := "4f90c401edef7cafbd7cd69e07f182839c4c8b8449d70aead70b0d6df2847972", func := "cachet/cachetlaw01.ShaTexts", spec := "shaTexts", unfollowed := true, recurses := true, named := ["cachet/sha.squareWords", "cachet/sha.cubeWords"], apart := false, laid := [("cachet/sha.squareWords", laid_cachet_sha_squareWords), ("cachet/sha.cubeWords", laid_cachet_sha_cubeWords)], narrowed := true }
def ShaTextsUptoSaid : Prop := shaTextsUptoRow.holds Tryd.pinned (OpenSpec.upto shaTextsSpec)

/-- 'cachetlaw01.ShaOrders', WHERE WHAT IT READS IS OF BULK AT MOST 1048576: true; the input reads as it did. -/
def shaOrdersUptoRow : OpenClaim := { program := "ytkcngkkjlnadiaadoor", sum := "4f90c401edef7cafbd7cd69e07f182839c4c8b8449d70aead70b0d6df2847972", func := "cachet/cachetlaw01.ShaOrders", spec := "shaOrders", unfollowed := true, recurses := true, named := ["cachet/sha.squareWords", "cachet/sha.cubeWords"], apart := false, laid := [("cachet/sha.squareWords", laid_cachet_sha_squareWords), ("cachet/sha.cubeWords", laid_cachet_sha_cubeWords)], narrowed := true }
def ShaOrdersUptoSaid : Prop := shaOrdersUptoRow.holds Tryd.pinned (OpenSpec.upto shaOrdersSpec)

/-- 'cachetlaw01.ShaPlays', WHERE WHAT IT READS IS OF BULK AT MOST 1048576: true; the input reads as it did. -/
def shaPlaysUptoRow : OpenClaim := { program := "ytkcngkkjlnadiaadoor", sum := "4f90c401edef7cafbd7cd69e07f182839c4c8b8449d70aead70b0d6df2847972", func := "cachet/cachetlaw01.ShaPlays", spec := "shaPlays", unfollowed := true, recurses := true, named := ["cachet/sha.squareWords", "cachet/sha.cubeWords"], apart := false, laid := [("cachet/sha.squareWords", laid_cachet_sha_squareWords), ("cachet/sha.cubeWords", laid_cachet_sha_cubeWords)], narrowed := true }
def ShaPlaysUptoSaid : Prop := shaPlaysUptoRow.holds Tryd.pinned (OpenSpec.upto shaPlaysSpec)

/-- 'cachetlaw01.ShaLong', WHERE WHAT IT READS IS OF BULK AT MOST 1048576: true; the input reads as it did. -/
def shaLongUptoRow : OpenClaim := { program := "ytkcngkkjlnadiaadoor", sum := "4f90c401edef7cafbd7cd69e07f182839c4c8b8449d70aead70b0d6df2847972", func := "cachet/cachetlaw01.ShaLong", spec := "shaLong", unfollowed := true, recurses := true, named := ["cachet/sha.squareWords", "cachet/sha.cubeWords"], apart := false, laid := [("cachet/sha.squareWords", laid_cachet_sha_squareWords), ("cachet/sha.cubeWords", laid_cachet_sha_cubeWords)], narrowed := true }
def ShaLongUptoSaid : Prop := shaLongUptoRow.holds Tryd.pinned (OpenSpec.upto shaLongSpec)

/-- 'cachetlaw01.ShaTails', WHERE WHAT IT READS IS OF BULK AT MOST 1048576: true; the input reads as it did. -/
def shaTailsUptoRow : OpenClaim := { program := "ytkcngkkjlnadiaadoor", sum := "4f90c401edef7cafbd7cd69e07f182839c4c8b8449d70aead70b0d6df2847972", func := "cachet/cachetlaw01.ShaTails", spec := "shaTails", unfollowed := true, recurses := true, named := ["cachet/sha.squareWords", "cachet/sha.cubeWords"], apart := false, laid := [("cachet/sha.squareWords", laid_cachet_sha_squareWords), ("cachet/sha.cubeWords", laid_cachet_sha_cubeWords)], narrowed := true }
def ShaTailsUptoSaid : Prop := shaTailsUptoRow.holds Tryd.pinned (OpenSpec.upto shaTailsSpec)

/-- 'cachetlaw01.ShaKnown', WHERE WHAT IT READS IS OF BULK AT MOST 1048576: true; the input reads as it did. -/
def shaKnownUptoRow : OpenClaim := { program := "ytkcngkkjlnadiaadoor", sum := "4f90c401edef7cafbd7cd69e07f182839c4c8b8449d70aead70b0d6df2847972", func := "cachet/cachetlaw01.ShaKnown", spec := "shaKnown", unfollowed := true, recurses := true, named := ["cachet/sha.squareWords", "cachet/sha.cubeWords"], apart := false, laid := [("cachet/sha.squareWords", laid_cachet_sha_squareWords), ("cachet/sha.cubeWords", laid_cachet_sha_cubeWords)], narrowed := true }
def ShaKnownUptoSaid : Prop := shaKnownUptoRow.holds Tryd.pinned (OpenSpec.upto shaKnownSpec)

/-- 'cachetlaw01.ShaBlocks', WHERE WHAT IT READS IS OF BULK AT MOST 1048576: true; the input reads as it did. -/
def shaBlocksUptoRow : OpenClaim := { program := "ytkcngkkjlnadiaadoor", sum := "4f90c401edef7cafbd7cd69e07f182839c4c8b8449d70aead70b0d6df2847972", func := "cachet/cachetlaw01.ShaBlocks", spec := "shaBlocks", unfollowed := true, recurses := true, named := ["cachet/sha.squareWords", "cachet/sha.cubeWords"], apart := false, laid := [("cachet/sha.squareWords", laid_cachet_sha_squareWords), ("cachet/sha.cubeWords", laid_cachet_sha_cubeWords)], narrowed := true }
def ShaBlocksUptoSaid : Prop := shaBlocksUptoRow.holds Tryd.pinned (OpenSpec.upto shaBlocksSpec)

/-- 'cachetlaw01.ShaDigits', WHERE WHAT IT READS IS OF BULK AT MOST 1048576: true; the input reads as it did. -/
def shaDigitsUptoRow : OpenClaim := { program := "ytkcngkkjlnadiaadoor", sum := "4f90c401edef7cafbd7cd69e07f182839c4c8b8449d70aead70b0d6df2847972", func := "cachet/cachetlaw01.ShaDigits", spec := "shaDigits", unfollowed := true, recurses := true, named := ["cachet/sha.squareWords", "cachet/sha.cubeWords"], apart := false, laid := [("cachet/sha.squareWords", laid_cachet_sha_squareWords), ("cachet/sha.cubeWords", laid_cachet_sha_cubeWords)], narrowed := true }
def ShaDigitsUptoSaid : Prop := shaDigitsUptoRow.holds Tryd.pinned (OpenSpec.upto shaDigitsSpec)

/-- 'cachetlaw01.ShaCopied', WHERE WHAT IT READS IS OF BULK AT MOST 1048576: true; the input reads as it did. -/
def shaCopiedUptoRow : OpenClaim := { program := "ytkcngkkjlnadiaadoor", sum := "4f90c401edef7cafbd7cd69e07f182839c4c8b8449d70aead70b0d6df2847972", func := "cachet/cachetlaw01.ShaCopied", spec := "shaCopied", unfollowed := true, recurses := true, named := ["cachet/sha.squareWords", "cachet/sha.cubeWords"], apart := false, laid := [("cachet/sha.squareWords", laid_cachet_sha_squareWords), ("cachet/sha.cubeWords", laid_cachet_sha_cubeWords)], narrowed := true }
def ShaCopiedUptoSaid : Prop := shaCopiedUptoRow.holds Tryd.pinned (OpenSpec.upto shaCopiedSpec)

/-- 'cachetlaw01.ShaCuts', WHERE WHAT IT READS IS OF BULK AT MOST 1048576: true; the input reads as it did. -/
def shaCutsUptoRow : OpenClaim := { program := "ytkcngkkjlnadiaadoor", sum := "4f90c401edef7cafbd7cd69e07f182839c4c8b8449d70aead70b0d6df2847972", func := "cachet/cachetlaw01.ShaCuts", spec := "shaCuts", unfollowed := true, recurses := true, named := ["cachet/sha.squareWords", "cachet/sha.cubeWords"], apart := false, laid := [("cachet/sha.squareWords", laid_cachet_sha_squareWords), ("cachet/sha.cubeWords", laid_cachet_sha_cubeWords)], narrowed := true }
def ShaCutsUptoSaid : Prop := shaCutsUptoRow.holds Tryd.pinned (OpenSpec.upto shaCutsSpec)

end Rows
end Go.Proofs.YtkcngkkjlnadiaaDoor
