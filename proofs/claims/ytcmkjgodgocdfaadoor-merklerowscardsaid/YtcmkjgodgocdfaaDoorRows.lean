/-
  NARROWER THAN 'FOR EVERY INPUT', by the rows' own cells (each row's printed sentence says how): MerkleRoots: laid · MerklePaths: laid · MerkleRows: laid · MerkleUps: laid · MerkleSteps: laid · MerkleEach: laid · MerkleLike: laid · MerkleBent: laid · MerkleLengths: laid · MerkleHolds: laid.
  DERIVED. THE GIVEN ROWS OF THIS SEAT. 10 by the template 'for every input the law returns true; each argument reads behind the call as it read before'; 0 by the template 'total and deterministic' (their statements: YtcmkjgodgocdfaaDoorTotals.lean).
  GIVEN WITH THE SEED: the statements are not yours to turn. If you find one false, say at which input.
  Laid BY PROGRAM, IN A SANDBOX (cutbox-rows.mjs): the forced cells as the released guide's own fill.sh prints them over the translation cfd25453e5ca8d69… (all of the seat's roots in one cut). By AI agents, Wed Nov 11 2026. No macro, syntax, notation, axiom, sorry.
-/
import Derived.Test.YtcmkjgodgocdfaaDoorChecked
import GoSem.Claim
import GoSem.ClaimJoined
import GoSem.ClaimMapViews
import Derived.JoinedTies
import Derived.KernelRfl
namespace Go.Proofs.YtcmkjgodgocdfaaDoor
/- THE CELL 'sum', in the pinned program and in every row, IS THE sha256 OF THE DUMP (.gsa) THAT YtcmkjgodgocdfaaDoorProg.lean LOADS. Nothing in Lean hashes anything: it is a label: what it is worth is what the hold of that sum in a sandbox is worth. -/
noncomputable def Tryd.pinned : Pinned := { name := "ytcmkjgodgocdfaadoor", sum := "cfd25453e5ca8d69859dc4dc7f1b3b7ce1d97e402e89780ea59d42c6369e4caf", checked := Tryd.checked }
namespace Rows
def none {H : Type} : Left H := { results := [], args := [] }

/- WHAT THE LISTED PACKAGE-LEVEL VARIABLES READ AS WHEN THE CALL BEGINS. Each datum BY PROGRAM (the guide's laid-datum.mjs) off the statement by which the dump's own 'gosem.cut.vars' lays the variable. In a bare row this is a premise. The card (YtcmkjgodgocdfaaDoorCards.lean) ties it to the program's text. -/
def laid_cachet_sha_squareWords {H : Type} : DataW H := .agg [.lit (.int .u32 1779033703), .lit (.int .u32 3144134277), .lit (.int .u32 1013904242), .lit (.int .u32 2773480762), .lit (.int .u32 1359893119), .lit (.int .u32 2600822924), .lit (.int .u32 528734635), .lit (.int .u32 1541459225)]
def laid_cachet_sha_cubeWords {H : Type} : DataW H := .agg [.lit (.int .u32 1116352408), .lit (.int .u32 1899447441), .lit (.int .u32 3049323471), .lit (.int .u32 3921009573), .lit (.int .u32 961987163), .lit (.int .u32 1508970993), .lit (.int .u32 2453635748), .lit (.int .u32 2870763221), .lit (.int .u32 3624381080), .lit (.int .u32 310598401), .lit (.int .u32 607225278), .lit (.int .u32 1426881987), .lit (.int .u32 1925078388), .lit (.int .u32 2162078206), .lit (.int .u32 2614888103), .lit (.int .u32 3248222580), .lit (.int .u32 3835390401), .lit (.int .u32 4022224774), .lit (.int .u32 264347078), .lit (.int .u32 604807628), .lit (.int .u32 770255983), .lit (.int .u32 1249150122), .lit (.int .u32 1555081692), .lit (.int .u32 1996064986), .lit (.int .u32 2554220882), .lit (.int .u32 2821834349), .lit (.int .u32 2952996808), .lit (.int .u32 3210313671), .lit (.int .u32 3336571891), .lit (.int .u32 3584528711), .lit (.int .u32 113926993), .lit (.int .u32 338241895), .lit (.int .u32 666307205), .lit (.int .u32 773529912), .lit (.int .u32 1294757372), .lit (.int .u32 1396182291), .lit (.int .u32 1695183700), .lit (.int .u32 1986661051), .lit (.int .u32 2177026350), .lit (.int .u32 2456956037), .lit (.int .u32 2730485921), .lit (.int .u32 2820302411), .lit (.int .u32 3259730800), .lit (.int .u32 3345764771), .lit (.int .u32 3516065817), .lit (.int .u32 3600352804), .lit (.int .u32 4094571909), .lit (.int .u32 275423344), .lit (.int .u32 430227734), .lit (.int .u32 506948616), .lit (.int .u32 659060556), .lit (.int .u32 883997877), .lit (.int .u32 958139571), .lit (.int .u32 1322822218), .lit (.int .u32 1537002063), .lit (.int .u32 1747873779), .lit (.int .u32 1955562222), .lit (.int .u32 2024104815), .lit (.int .u32 2227730452), .lit (.int .u32 2361852424), .lit (.int .u32 2428436474), .lit (.int .u32 2756734187), .lit (.int .u32 3204031479), .lit (.int .u32 3329325298)]

/-- 'cachetlaw04.MerkleRoots': WHATEVER THE INPUT: true; the input reads as it did. -/
def merkleRootsSpec : ChangeSpec := { name := "merkleRoots", fn := fun _ => fun
  | [d] => { results := [.lit (.bool true)], args := [d] }
  | _ => none }
def merkleRootsRow : OpenClaim := { program := "ytcmkjgodgocdfaadoor", sum := "cfd25453e5ca8d69859dc4dc7f1b3b7ce1d97e402e89780ea59d42c6369e4caf", func := "cachet/cachetlaw04.MerkleRoots", spec := "merkleRoots", unfollowed := true, recurses := true, named := ["cachet/sha.squareWords", "cachet/sha.cubeWords"], apart := false, laid := [("cachet/sha.squareWords", laid_cachet_sha_squareWords), ("cachet/sha.cubeWords", laid_cachet_sha_cubeWords)] }
def MerkleRootsSaid : Prop := merkleRootsRow.holds Tryd.pinned (OpenSpec.ofChange merkleRootsSpec)

/-- ITS FALSE NEIGHBOUR: 'it returns false'. Refute it at one input. -/
def merkleRootsWrong : ChangeSpec := { name := "merkleRoots", fn := fun _ => fun
  | [d] => { results := [.lit (.bool false)], args := [d] }
  | _ => none }
def MerkleRootsWrongFalsely : Prop := merkleRootsRow.holds Tryd.pinned (OpenSpec.ofChange merkleRootsWrong)

/-- 'cachetlaw04.MerklePaths': WHATEVER THE INPUT: true; the input reads as it did. -/
def merklePathsSpec : ChangeSpec := { name := "merklePaths", fn := fun _ => fun
  | [d1, d2] => { results := [.lit (.bool true)], args := [d1, d2] }
  | _ => none }
def merklePathsRow : OpenClaim := { program := "ytcmkjgodgocdfaadoor", sum := "cfd25453e5ca8d69859dc4dc7f1b3b7ce1d97e402e89780ea59d42c6369e4caf", func := "cachet/cachetlaw04.MerklePaths", spec := "merklePaths", unfollowed := true, recurses := true, named := ["cachet/sha.squareWords", "cachet/sha.cubeWords"], apart := false, laid := [("cachet/sha.squareWords", laid_cachet_sha_squareWords), ("cachet/sha.cubeWords", laid_cachet_sha_cubeWords)] }
def MerklePathsSaid : Prop := merklePathsRow.holds Tryd.pinned (OpenSpec.ofChange merklePathsSpec)

/-- ITS FALSE NEIGHBOUR: 'it returns false'. Refute it at one input. -/
def merklePathsWrong : ChangeSpec := { name := "merklePaths", fn := fun _ => fun
  | [d1, d2] => { results := [.lit (.bool false)], args := [d1, d2] }
  | _ => none }
def MerklePathsWrongFalsely : Prop := merklePathsRow.holds Tryd.pinned (OpenSpec.ofChange merklePathsWrong)

/-- 'cachetlaw04.MerkleRows': WHATEVER THE INPUT: true; the input reads as it did. -/
def merkleRowsSpec : ChangeSpec := { name := "merkleRows", fn := fun _ => fun
  | [d1, d2] => { results := [.lit (.bool true)], args := [d1, d2] }
  | _ => none }
def merkleRowsRow : OpenClaim := { program := "ytcmkjgodgocdfaadoor", sum := "cfd25453e5ca8d69859dc4dc7f1b3b7ce1d97e402e89780ea59d42c6369e4caf", func := "cachet/cachetlaw04.MerkleRows", spec := "merkleRows", unfollowed := true, recurses := true, named := ["cachet/sha.squareWords", "cachet/sha.cubeWords"], apart := false, laid := [("cachet/sha.squareWords", laid_cachet_sha_squareWords), ("cachet/sha.cubeWords", laid_cachet_sha_cubeWords)] }
def MerkleRowsSaid : Prop := merkleRowsRow.holds Tryd.pinned (OpenSpec.ofChange merkleRowsSpec)

/-- ITS FALSE NEIGHBOUR: 'it returns false'. Refute it at one input. -/
def merkleRowsWrong : ChangeSpec := { name := "merkleRows", fn := fun _ => fun
  | [d1, d2] => { results := [.lit (.bool false)], args := [d1, d2] }
  | _ => none }
def MerkleRowsWrongFalsely : Prop := merkleRowsRow.holds Tryd.pinned (OpenSpec.ofChange merkleRowsWrong)

/-- 'cachetlaw04.MerkleUps': WHATEVER THE INPUT: true; the input reads as it did. -/
def merkleUpsSpec : ChangeSpec := { name := "merkleUps", fn := fun _ => fun
  | [d1, d2, d3, d4, d5] => { results := [.lit (.bool true)], args := [d1, d2, d3, d4, d5] }
  | _ => none }
def merkleUpsRow : OpenClaim := { program := "ytcmkjgodgocdfaadoor", sum := "cfd25453e5ca8d69859dc4dc7f1b3b7ce1d97e402e89780ea59d42c6369e4caf", func := "cachet/cachetlaw04.MerkleUps", spec := "merkleUps", unfollowed := true, recurses := true, named := ["cachet/sha.squareWords", "cachet/sha.cubeWords"], apart := false, laid := [("cachet/sha.squareWords", laid_cachet_sha_squareWords), ("cachet/sha.cubeWords", laid_cachet_sha_cubeWords)] }
def MerkleUpsSaid : Prop := merkleUpsRow.holds Tryd.pinned (OpenSpec.ofChange merkleUpsSpec)

/-- ITS FALSE NEIGHBOUR: 'it returns false'. Refute it at one input. -/
def merkleUpsWrong : ChangeSpec := { name := "merkleUps", fn := fun _ => fun
  | [d1, d2, d3, d4, d5] => { results := [.lit (.bool false)], args := [d1, d2, d3, d4, d5] }
  | _ => none }
def MerkleUpsWrongFalsely : Prop := merkleUpsRow.holds Tryd.pinned (OpenSpec.ofChange merkleUpsWrong)

/-- 'cachetlaw04.MerkleSteps': WHATEVER THE INPUT: true; the input reads as it did. -/
def merkleStepsSpec : ChangeSpec := { name := "merkleSteps", fn := fun _ => fun
  | [d1, d2] => { results := [.lit (.bool true)], args := [d1, d2] }
  | _ => none }
def merkleStepsRow : OpenClaim := { program := "ytcmkjgodgocdfaadoor", sum := "cfd25453e5ca8d69859dc4dc7f1b3b7ce1d97e402e89780ea59d42c6369e4caf", func := "cachet/cachetlaw04.MerkleSteps", spec := "merkleSteps", unfollowed := true, recurses := true, named := ["cachet/sha.squareWords", "cachet/sha.cubeWords"], apart := false, laid := [("cachet/sha.squareWords", laid_cachet_sha_squareWords), ("cachet/sha.cubeWords", laid_cachet_sha_cubeWords)] }
def MerkleStepsSaid : Prop := merkleStepsRow.holds Tryd.pinned (OpenSpec.ofChange merkleStepsSpec)

/-- ITS FALSE NEIGHBOUR: 'it returns false'. Refute it at one input. -/
def merkleStepsWrong : ChangeSpec := { name := "merkleSteps", fn := fun _ => fun
  | [d1, d2] => { results := [.lit (.bool false)], args := [d1, d2] }
  | _ => none }
def MerkleStepsWrongFalsely : Prop := merkleStepsRow.holds Tryd.pinned (OpenSpec.ofChange merkleStepsWrong)

/-- 'cachetlaw04.MerkleEach': WHATEVER THE INPUT: true; the input reads as it did. -/
def merkleEachSpec : ChangeSpec := { name := "merkleEach", fn := fun _ => fun
  | [d1, d2] => { results := [.lit (.bool true)], args := [d1, d2] }
  | _ => none }
def merkleEachRow : OpenClaim := { program := "ytcmkjgodgocdfaadoor", sum := "cfd25453e5ca8d69859dc4dc7f1b3b7ce1d97e402e89780ea59d42c6369e4caf", func := "cachet/cachetlaw04.MerkleEach", spec := "merkleEach", unfollowed := true, recurses := true, named := ["cachet/sha.squareWords", "cachet/sha.cubeWords"], apart := false, laid := [("cachet/sha.squareWords", laid_cachet_sha_squareWords), ("cachet/sha.cubeWords", laid_cachet_sha_cubeWords)] }
def MerkleEachSaid : Prop := merkleEachRow.holds Tryd.pinned (OpenSpec.ofChange merkleEachSpec)

/-- ITS FALSE NEIGHBOUR: 'it returns false'. Refute it at one input. -/
def merkleEachWrong : ChangeSpec := { name := "merkleEach", fn := fun _ => fun
  | [d1, d2] => { results := [.lit (.bool false)], args := [d1, d2] }
  | _ => none }
def MerkleEachWrongFalsely : Prop := merkleEachRow.holds Tryd.pinned (OpenSpec.ofChange merkleEachWrong)

/-- 'cachetlaw04.MerkleLike': WHATEVER THE INPUT: true; the input reads as it did. -/
def merkleLikeSpec : ChangeSpec := { name := "merkleLike", fn := fun _ => fun
  | [d1, d2] => { results := [.lit (.bool true)], args := [d1, d2] }
  | _ => none }
def merkleLikeRow : OpenClaim := { program := "ytcmkjgodgocdfaadoor", sum := "cfd25453e5ca8d69859dc4dc7f1b3b7ce1d97e402e89780ea59d42c6369e4caf", func := "cachet/cachetlaw04.MerkleLike", spec := "merkleLike", unfollowed := true, recurses := true, named := ["cachet/sha.squareWords", "cachet/sha.cubeWords"], apart := false, laid := [("cachet/sha.squareWords", laid_cachet_sha_squareWords), ("cachet/sha.cubeWords", laid_cachet_sha_cubeWords)] }
def MerkleLikeSaid : Prop := merkleLikeRow.holds Tryd.pinned (OpenSpec.ofChange merkleLikeSpec)

/-- ITS FALSE NEIGHBOUR: 'it returns false'. Refute it at one input. -/
def merkleLikeWrong : ChangeSpec := { name := "merkleLike", fn := fun _ => fun
  | [d1, d2] => { results := [.lit (.bool false)], args := [d1, d2] }
  | _ => none }
def MerkleLikeWrongFalsely : Prop := merkleLikeRow.holds Tryd.pinned (OpenSpec.ofChange merkleLikeWrong)

/-- 'cachetlaw04.MerkleBent': WHATEVER THE INPUT: true; the input reads as it did. -/
def merkleBentSpec : ChangeSpec := { name := "merkleBent", fn := fun _ => fun
  | [d1, d2, d3, d4, d5] => { results := [.lit (.bool true)], args := [d1, d2, d3, d4, d5] }
  | _ => none }
def merkleBentRow : OpenClaim := { program := "ytcmkjgodgocdfaadoor", sum := "cfd25453e5ca8d69859dc4dc7f1b3b7ce1d97e402e89780ea59d42c6369e4caf", func := "cachet/cachetlaw04.MerkleBent", spec := "merkleBent", unfollowed := true, recurses := true, named := ["cachet/sha.squareWords", "cachet/sha.cubeWords"], apart := false, laid := [("cachet/sha.squareWords", laid_cachet_sha_squareWords), ("cachet/sha.cubeWords", laid_cachet_sha_cubeWords)] }
def MerkleBentSaid : Prop := merkleBentRow.holds Tryd.pinned (OpenSpec.ofChange merkleBentSpec)

/-- ITS FALSE NEIGHBOUR: 'it returns false'. Refute it at one input. -/
def merkleBentWrong : ChangeSpec := { name := "merkleBent", fn := fun _ => fun
  | [d1, d2, d3, d4, d5] => { results := [.lit (.bool false)], args := [d1, d2, d3, d4, d5] }
  | _ => none }
def MerkleBentWrongFalsely : Prop := merkleBentRow.holds Tryd.pinned (OpenSpec.ofChange merkleBentWrong)

/-- 'cachetlaw04.MerkleLengths': WHATEVER THE INPUT: true; the input reads as it did. -/
def merkleLengthsSpec : ChangeSpec := { name := "merkleLengths", fn := fun _ => fun
  | [] => { results := [.lit (.bool true)], args := [] }
  | _ => none }
def merkleLengthsRow : OpenClaim := { program := "ytcmkjgodgocdfaadoor", sum := "cfd25453e5ca8d69859dc4dc7f1b3b7ce1d97e402e89780ea59d42c6369e4caf", func := "cachet/cachetlaw04.MerkleLengths", spec := "merkleLengths", unfollowed := true, recurses := true, named := ["cachet/sha.squareWords", "cachet/sha.cubeWords"], apart := false, laid := [("cachet/sha.squareWords", laid_cachet_sha_squareWords), ("cachet/sha.cubeWords", laid_cachet_sha_cubeWords)] }
def MerkleLengthsSaid : Prop := merkleLengthsRow.holds Tryd.pinned (OpenSpec.ofChange merkleLengthsSpec)

/-- ITS FALSE NEIGHBOUR: 'it returns false'. Refute it at one input. -/
def merkleLengthsWrong : ChangeSpec := { name := "merkleLengths", fn := fun _ => fun
  | [] => { results := [.lit (.bool false)], args := [] }
  | _ => none }
def MerkleLengthsWrongFalsely : Prop := merkleLengthsRow.holds Tryd.pinned (OpenSpec.ofChange merkleLengthsWrong)

/-- 'cachetlaw04.MerkleHolds': WHATEVER THE INPUT: true; the input reads as it did. -/
def merkleHoldsSpec : ChangeSpec := { name := "merkleHolds", fn := fun _ => fun
  | [d] => { results := [.lit (.bool true)], args := [d] }
  | _ => none }
def merkleHoldsRow : OpenClaim := { program := "ytcmkjgodgocdfaadoor", sum := "cfd25453e5ca8d69859dc4dc7f1b3b7ce1d97e402e89780ea59d42c6369e4caf", func := "cachet/cachetlaw04.MerkleHolds", spec := "merkleHolds", unfollowed := true, recurses := true, named := ["cachet/sha.squareWords", "cachet/sha.cubeWords"], apart := false, laid := [("cachet/sha.squareWords", laid_cachet_sha_squareWords), ("cachet/sha.cubeWords", laid_cachet_sha_cubeWords)] }
def MerkleHoldsSaid : Prop := merkleHoldsRow.holds Tryd.pinned (OpenSpec.ofChange merkleHoldsSpec)

/-- ITS FALSE NEIGHBOUR: 'it returns false'. Refute it at one input. -/
def merkleHoldsWrong : ChangeSpec := { name := "merkleHolds", fn := fun _ => fun
  | [d] => { results := [.lit (.bool false)], args := [d] }
  | _ => none }
def MerkleHoldsWrongFalsely : Prop := merkleHoldsRow.holds Tryd.pinned (OpenSpec.ofChange merkleHoldsWrong)

/- THE SECOND FORM. 'bulk': how many values and letters a reading holds, each counted each time it is reached (what is shared counts as often as it is met; a slice's spare places count too). A statement '..UptoSaid' is the law's where the arguments, and the package variables that the reading takes, are together of bulk at most 1048576: NARROWER than '..Said'. Prove '..Said' where nothing that the law and all that it calls make is longer than what came in: it says more and counts as full. Else prove '..UptoSaid'. A law counts once. -/
mutual
def uptoBulk {H : Type} : DataW H → Nat
  | .lit (.string bytes) => bytes.length + 1
  | .lit _ => 1
  | .nil => 1
  | .ptr d => uptoBulk d + 1
  | .slice elems spare => uptoBulkAll elems + uptoBulkAll spare + 1
  | .agg parts => uptoBulkAll parts + 1
  | .iface _ d => uptoBulk d + 1
  | .map entries => uptoBulkEntries entries + 1
  | .held _ => 1
def uptoBulkAll {H : Type} : List (DataW H) → Nat
  | [] => 0
  | d :: r => uptoBulk d + uptoBulkAll r
def uptoBulkEntries {H : Type} : List (Lit × DataW H) → Nat
  | [] => 0
  | x :: r => uptoBulkEntry x + uptoBulkEntries r
def uptoBulkEntry {H : Type} : Lit × DataW H → Nat
  | (.string bytes, d) => bytes.length + uptoBulk d + 1
  | (_, d) => uptoBulk d + 1
 end
def uptoSmall : (H : Type) → List (DataW H) → Bool := fun _ ds => decide (uptoBulkAll ds ≤ 1048576)
def OpenSpec.upto (s : _root_.Go.ChangeSpec) : _root_.Go.OpenSpec := { _root_.Go.OpenSpec.ofChange s with cond := some uptoSmall }

/-- 'cachetlaw04.MerkleRoots', WHERE WHAT IT READS IS OF BULK AT MOST 1048576: true; the input reads as it did. -/
def merkleRootsUptoRow : OpenClaim := { program := "ytcmkjgodgocdfaadoor", sum := "cfd25453e5ca8d69859dc4dc7f1b3b7ce1d97e402e89780ea59d42c6369e4caf", func := "cachet/cachetlaw04.MerkleRoots", spec := "merkleRoots", unfollowed := true, recurses := true, named := ["cachet/sha.squareWords", "cachet/sha.cubeWords"], apart := false, laid := [("cachet/sha.squareWords", laid_cachet_sha_squareWords), ("cachet/sha.cubeWords", laid_cachet_sha_cubeWords)], narrowed := true }
def MerkleRootsUptoSaid : Prop := merkleRootsUptoRow.holds Tryd.pinned (OpenSpec.upto merkleRootsSpec)

/-- 'cachetlaw04.MerklePaths', WHERE WHAT IT READS IS OF BULK AT MOST 1048576: true; the input reads as it did. -/
def merklePathsUptoRow : OpenClaim := { program := "ytcmkjgodgocdfaadoor", sum := "cfd25453e5ca8d69859dc4dc7f1b3b7ce1d97e402e89780ea59d42c6369e4caf", func := "cachet/cachetlaw04.MerklePaths", spec := "merklePaths", unfollowed := true, recurses := true, named := ["cachet/sha.squareWords", "cachet/sha.cubeWords"], apart := false, laid := [("cachet/sha.squareWords", laid_cachet_sha_squareWords), ("cachet/sha.cubeWords", laid_cachet_sha_cubeWords)], narrowed := true }
def MerklePathsUptoSaid : Prop := merklePathsUptoRow.holds Tryd.pinned (OpenSpec.upto merklePathsSpec)

/-- 'cachetlaw04.MerkleRows', WHERE WHAT IT READS IS OF BULK AT MOST 1048576: true; the input reads as it did. -/
def merkleRowsUptoRow : OpenClaim := { program := "ytcmkjgodgocdfaadoor", sum := "cfd25453e5ca8d69859dc4dc7f1b3b7ce1d97e402e89780ea59d42c6369e4caf", func := "cachet/cachetlaw04.MerkleRows", spec := "merkleRows", unfollowed := true, recurses := true, named := ["cachet/sha.squareWords", "cachet/sha.cubeWords"], apart := false, laid := [("cachet/sha.squareWords", laid_cachet_sha_squareWords), ("cachet/sha.cubeWords", laid_cachet_sha_cubeWords)], narrowed := true }
def MerkleRowsUptoSaid : Prop := merkleRowsUptoRow.holds Tryd.pinned (OpenSpec.upto merkleRowsSpec)

/-- 'cachetlaw04.MerkleUps', WHERE WHAT IT READS IS OF BULK AT MOST 1048576: true; the input reads as it did. -/
def merkleUpsUptoRow : OpenClaim := { program := "ytcmkjgodgocdfaadoor", sum := "cfd25453e5ca8d69859dc4dc7f1b3b7ce1d97e402e89780ea59d42c6369e4caf", func := "cachet/cachetlaw04.MerkleUps", spec := "merkleUps", unfollowed := true, recurses := true, named := ["cachet/sha.squareWords", "cachet/sha.cubeWords"], apart := false, laid := [("cachet/sha.squareWords", laid_cachet_sha_squareWords), ("cachet/sha.cubeWords", laid_cachet_sha_cubeWords)], narrowed := true }
def MerkleUpsUptoSaid : Prop := merkleUpsUptoRow.holds Tryd.pinned (OpenSpec.upto merkleUpsSpec)

/-- 'cachetlaw04.MerkleSteps', WHERE WHAT IT READS IS OF BULK AT MOST 1048576: true; the input reads as it did. -/
def merkleStepsUptoRow : OpenClaim := { program := "ytcmkjgodgocdfaadoor", sum := "cfd25453e5ca8d69859dc4dc7f1b3b7ce1d97e402e89780ea59d42c6369e4caf", func := "cachet/cachetlaw04.MerkleSteps", spec := "merkleSteps", unfollowed := true, recurses := true, named := ["cachet/sha.squareWords", "cachet/sha.cubeWords"], apart := false, laid := [("cachet/sha.squareWords", laid_cachet_sha_squareWords), ("cachet/sha.cubeWords", laid_cachet_sha_cubeWords)], narrowed := true }
def MerkleStepsUptoSaid : Prop := merkleStepsUptoRow.holds Tryd.pinned (OpenSpec.upto merkleStepsSpec)

/-- 'cachetlaw04.MerkleEach', WHERE WHAT IT READS IS OF BULK AT MOST 1048576: true; the input reads as it did. -/
def merkleEachUptoRow : OpenClaim := { program := "ytcmkjgodgocdfaadoor", sum := "cfd25453e5ca8d69859dc4dc7f1b3b7ce1d97e402e89780ea59d42c6369e4caf", func := "cachet/cachetlaw04.MerkleEach", spec := "merkleEach", unfollowed := true, recurses := true, named := ["cachet/sha.squareWords", "cachet/sha.cubeWords"], apart := false, laid := [("cachet/sha.squareWords", laid_cachet_sha_squareWords), ("cachet/sha.cubeWords", laid_cachet_sha_cubeWords)], narrowed := true }
def MerkleEachUptoSaid : Prop := merkleEachUptoRow.holds Tryd.pinned (OpenSpec.upto merkleEachSpec)

/-- 'cachetlaw04.MerkleLike', WHERE WHAT IT READS IS OF BULK AT MOST 1048576: true; the input reads as it did. -/
def merkleLikeUptoRow : OpenClaim := { program := "ytcmkjgodgocdfaadoor", sum := "cfd25453e5ca8d69859dc4dc7f1b3b7ce1d97e402e89780ea59d42c6369e4caf", func := "cachet/cachetlaw04.MerkleLike", spec := "merkleLike", unfollowed := true, recurses := true, named := ["cachet/sha.squareWords", "cachet/sha.cubeWords"], apart := false, laid := [("cachet/sha.squareWords", laid_cachet_sha_squareWords), ("cachet/sha.cubeWords", laid_cachet_sha_cubeWords)], narrowed := true }
def MerkleLikeUptoSaid : Prop := merkleLikeUptoRow.holds Tryd.pinned (OpenSpec.upto merkleLikeSpec)

/-- 'cachetlaw04.MerkleBent', WHERE WHAT IT READS IS OF BULK AT MOST 1048576: true; the input reads as it did. -/
def merkleBentUptoRow : OpenClaim := { program := "ytcmkjgodgocdfaadoor", sum := "cfd25453e5ca8d69859dc4dc7f1b3b7ce1d97e402e89780ea59d42c6369e4caf", func := "cachet/cachetlaw04.MerkleBent", spec := "merkleBent", unfollowed := true, recurses := true, named := ["cachet/sha.squareWords", "cachet/sha.cubeWords"], apart := false, laid := [("cachet/sha.squareWords", laid_cachet_sha_squareWords), ("cachet/sha.cubeWords", laid_cachet_sha_cubeWords)], narrowed := true }
def MerkleBentUptoSaid : Prop := merkleBentUptoRow.holds Tryd.pinned (OpenSpec.upto merkleBentSpec)

/-- 'cachetlaw04.MerkleLengths', WHERE WHAT IT READS IS OF BULK AT MOST 1048576: true; the input reads as it did. -/
def merkleLengthsUptoRow : OpenClaim := { program := "ytcmkjgodgocdfaadoor", sum := "cfd25453e5ca8d69859dc4dc7f1b3b7ce1d97e402e89780ea59d42c6369e4caf", func := "cachet/cachetlaw04.MerkleLengths", spec := "merkleLengths", unfollowed := true, recurses := true, named := ["cachet/sha.squareWords", "cachet/sha.cubeWords"], apart := false, laid := [("cachet/sha.squareWords", laid_cachet_sha_squareWords), ("cachet/sha.cubeWords", laid_cachet_sha_cubeWords)], narrowed := true }
def MerkleLengthsUptoSaid : Prop := merkleLengthsUptoRow.holds Tryd.pinned (OpenSpec.upto merkleLengthsSpec)

/-- 'cachetlaw04.MerkleHolds', WHERE WHAT IT READS IS OF BULK AT MOST 1048576: true; the input reads as it did. -/
def merkleHoldsUptoRow : OpenClaim := { program := "ytcmkjgodgocdfaadoor", sum := "cfd25453e5ca8d69859dc4dc7f1b3b7ce1d97e402e89780ea59d42c6369e4caf", func := "cachet/cachetlaw04.MerkleHolds", spec := "merkleHolds", unfollowed := true, recurses := true, named := ["cachet/sha.squareWords", "cachet/sha.cubeWords"], apart := false, laid := [("cachet/sha.squareWords", laid_cachet_sha_squareWords), ("cachet/sha.cubeWords", laid_cachet_sha_cubeWords)], narrowed := true }
def MerkleHoldsUptoSaid : Prop := merkleHoldsUptoRow.holds Tryd.pinned (OpenSpec.upto merkleHoldsSpec)

end Rows
end Go.Proofs.YtcmkjgodgocdfaaDoor
