/-
  DERIVED. GIVEN WITH THE SEED: THE CARDS: each row of YtcmkjgodgocdfaaDoorRows.lean that lists a variable, with what it lists TIED to the program's text (the seventh form; the later family's looks); each row that meets fmt, with fmt's text TOLD by the authors' own Lean function (tested against real Go, not proved from fmt's source: count such statements apart). THE CARD IS WHAT COUNTS. Prove the row's statement (the work); the ties are given (YtcmkjgodgocdfaaDoorTie.lean); close each card by the builder's one call (the guide's Derived/Test/ToyasCard.lean, 'card_holds'). Laid BY PROGRAM, IN A SANDBOX (cutbox-door.mjs). By AI agents, Wed Nov 11 2026. No macro, syntax, notation, axiom, sorry.
-/
import Derived.Test.YtcmkjgodgocdfaaDoorRows
import GoSem.ClaimSeven
namespace Go.Proofs.YtcmkjgodgocdfaaDoor
namespace Rows

/-- THE TIED CARD OF 'cachetlaw04.MerkleRoots'. -/
def merkleRootsCard : Claim7 := { stood := { row := merkleRootsRow, standIns := [], harness := (true, "f0d9783be63d8a662957696f2acc9e3d4aef57d2f34a91da2a6d7fecfdbd0dd2"), looks := false }, kinds := [], alts := [], laidByText := true, laidKinds := [.data, .data], laidTests := true, laidLooks := .later }
def MerkleRootsCardSaid : Prop := Claim7.holds Tryd.pinned (.plain (OpenSpec.ofChange merkleRootsSpec)) merkleRootsCard

/-- THE TIED CARD OF 'cachetlaw04.MerklePaths'. -/
def merklePathsCard : Claim7 := { stood := { row := merklePathsRow, standIns := [], harness := (true, "f0d9783be63d8a662957696f2acc9e3d4aef57d2f34a91da2a6d7fecfdbd0dd2"), looks := false }, kinds := [], alts := [], laidByText := true, laidKinds := [.data, .data], laidTests := true, laidLooks := .later }
def MerklePathsCardSaid : Prop := Claim7.holds Tryd.pinned (.plain (OpenSpec.ofChange merklePathsSpec)) merklePathsCard

/-- THE TIED CARD OF 'cachetlaw04.MerkleRows'. -/
def merkleRowsCard : Claim7 := { stood := { row := merkleRowsRow, standIns := [], harness := (true, "f0d9783be63d8a662957696f2acc9e3d4aef57d2f34a91da2a6d7fecfdbd0dd2"), looks := false }, kinds := [], alts := [], laidByText := true, laidKinds := [.data, .data], laidTests := true, laidLooks := .later }
def MerkleRowsCardSaid : Prop := Claim7.holds Tryd.pinned (.plain (OpenSpec.ofChange merkleRowsSpec)) merkleRowsCard

/-- THE TIED CARD OF 'cachetlaw04.MerkleUps'. -/
def merkleUpsCard : Claim7 := { stood := { row := merkleUpsRow, standIns := [], harness := (true, "f0d9783be63d8a662957696f2acc9e3d4aef57d2f34a91da2a6d7fecfdbd0dd2"), looks := false }, kinds := [], alts := [], laidByText := true, laidKinds := [.data, .data], laidTests := true, laidLooks := .later }
def MerkleUpsCardSaid : Prop := Claim7.holds Tryd.pinned (.plain (OpenSpec.ofChange merkleUpsSpec)) merkleUpsCard

/-- THE TIED CARD OF 'cachetlaw04.MerkleSteps'. -/
def merkleStepsCard : Claim7 := { stood := { row := merkleStepsRow, standIns := [], harness := (true, "f0d9783be63d8a662957696f2acc9e3d4aef57d2f34a91da2a6d7fecfdbd0dd2"), looks := false }, kinds := [], alts := [], laidByText := true, laidKinds := [.data, .data], laidTests := true, laidLooks := .later }
def MerkleStepsCardSaid : Prop := Claim7.holds Tryd.pinned (.plain (OpenSpec.ofChange merkleStepsSpec)) merkleStepsCard

/-- THE TIED CARD OF 'cachetlaw04.MerkleEach'. -/
def merkleEachCard : Claim7 := { stood := { row := merkleEachRow, standIns := [], harness := (true, "f0d9783be63d8a662957696f2acc9e3d4aef57d2f34a91da2a6d7fecfdbd0dd2"), looks := false }, kinds := [], alts := [], laidByText := true, laidKinds := [.data, .data], laidTests := true, laidLooks := .later }
def MerkleEachCardSaid : Prop := Claim7.holds Tryd.pinned (.plain (OpenSpec.ofChange merkleEachSpec)) merkleEachCard

/-- THE TIED CARD OF 'cachetlaw04.MerkleLike'. -/
def merkleLikeCard : Claim7 := { stood := { row := merkleLikeRow, standIns := [], harness := (true, "f0d9783be63d8a662957696f2acc9e3d4aef57d2f34a91da2a6d7fecfdbd0dd2"), looks := false }, kinds := [], alts := [], laidByText := true, laidKinds := [.data, .data], laidTests := true, laidLooks := .later }
def MerkleLikeCardSaid : Prop := Claim7.holds Tryd.pinned (.plain (OpenSpec.ofChange merkleLikeSpec)) merkleLikeCard

/-- THE TIED CARD OF 'cachetlaw04.MerkleBent'. -/
def merkleBentCard : Claim7 := { stood := { row := merkleBentRow, standIns := [], harness := (true, "f0d9783be63d8a662957696f2acc9e3d4aef57d2f34a91da2a6d7fecfdbd0dd2"), looks := false }, kinds := [], alts := [], laidByText := true, laidKinds := [.data, .data], laidTests := true, laidLooks := .later }
def MerkleBentCardSaid : Prop := Claim7.holds Tryd.pinned (.plain (OpenSpec.ofChange merkleBentSpec)) merkleBentCard

/-- THE TIED CARD OF 'cachetlaw04.MerkleLengths'. -/
def merkleLengthsCard : Claim7 := { stood := { row := merkleLengthsRow, standIns := [], harness := (true, "f0d9783be63d8a662957696f2acc9e3d4aef57d2f34a91da2a6d7fecfdbd0dd2"), looks := false }, kinds := [], alts := [], laidByText := true, laidKinds := [.data, .data], laidTests := true, laidLooks := .later }
def MerkleLengthsCardSaid : Prop := Claim7.holds Tryd.pinned (.plain (OpenSpec.ofChange merkleLengthsSpec)) merkleLengthsCard

/-- THE TIED CARD OF 'cachetlaw04.MerkleHolds'. -/
def merkleHoldsCard : Claim7 := { stood := { row := merkleHoldsRow, standIns := [], harness := (true, "f0d9783be63d8a662957696f2acc9e3d4aef57d2f34a91da2a6d7fecfdbd0dd2"), looks := false }, kinds := [], alts := [], laidByText := true, laidKinds := [.data, .data], laidTests := true, laidLooks := .later }
def MerkleHoldsCardSaid : Prop := Claim7.holds Tryd.pinned (.plain (OpenSpec.ofChange merkleHoldsSpec)) merkleHoldsCard

/-- THE SECOND FORM's CARD OF 'cachetlaw04.MerkleRoots'. -/
def merkleRootsUptoCard : Claim7 := { stood := { row := merkleRootsUptoRow, standIns := [], harness := (true, "f0d9783be63d8a662957696f2acc9e3d4aef57d2f34a91da2a6d7fecfdbd0dd2"), looks := false }, kinds := [], alts := [], laidByText := true, laidKinds := [.data, .data], laidTests := true, laidLooks := .later }
def MerkleRootsUptoCardSaid : Prop := Claim7.holds Tryd.pinned (.plain (OpenSpec.upto merkleRootsSpec)) merkleRootsUptoCard

/-- THE SECOND FORM's CARD OF 'cachetlaw04.MerklePaths'. -/
def merklePathsUptoCard : Claim7 := { stood := { row := merklePathsUptoRow, standIns := [], harness := (true, "f0d9783be63d8a662957696f2acc9e3d4aef57d2f34a91da2a6d7fecfdbd0dd2"), looks := false }, kinds := [], alts := [], laidByText := true, laidKinds := [.data, .data], laidTests := true, laidLooks := .later }
def MerklePathsUptoCardSaid : Prop := Claim7.holds Tryd.pinned (.plain (OpenSpec.upto merklePathsSpec)) merklePathsUptoCard

/-- THE SECOND FORM's CARD OF 'cachetlaw04.MerkleRows'. -/
def merkleRowsUptoCard : Claim7 := { stood := { row := merkleRowsUptoRow, standIns := [], harness := (true, "f0d9783be63d8a662957696f2acc9e3d4aef57d2f34a91da2a6d7fecfdbd0dd2"), looks := false }, kinds := [], alts := [], laidByText := true, laidKinds := [.data, .data], laidTests := true, laidLooks := .later }
def MerkleRowsUptoCardSaid : Prop := Claim7.holds Tryd.pinned (.plain (OpenSpec.upto merkleRowsSpec)) merkleRowsUptoCard

/-- THE SECOND FORM's CARD OF 'cachetlaw04.MerkleUps'. -/
def merkleUpsUptoCard : Claim7 := { stood := { row := merkleUpsUptoRow, standIns := [], harness := (true, "f0d9783be63d8a662957696f2acc9e3d4aef57d2f34a91da2a6d7fecfdbd0dd2"), looks := false }, kinds := [], alts := [], laidByText := true, laidKinds := [.data, .data], laidTests := true, laidLooks := .later }
def MerkleUpsUptoCardSaid : Prop := Claim7.holds Tryd.pinned (.plain (OpenSpec.upto merkleUpsSpec)) merkleUpsUptoCard

/-- THE SECOND FORM's CARD OF 'cachetlaw04.MerkleSteps'. -/
def merkleStepsUptoCard : Claim7 := { stood := { row := merkleStepsUptoRow, standIns := [], harness := (true, "f0d9783be63d8a662957696f2acc9e3d4aef57d2f34a91da2a6d7fecfdbd0dd2"), looks := false }, kinds := [], alts := [], laidByText := true, laidKinds := [.data, .data], laidTests := true, laidLooks := .later }
def MerkleStepsUptoCardSaid : Prop := Claim7.holds Tryd.pinned (.plain (OpenSpec.upto merkleStepsSpec)) merkleStepsUptoCard

/-- THE SECOND FORM's CARD OF 'cachetlaw04.MerkleEach'. -/
def merkleEachUptoCard : Claim7 := { stood := { row := merkleEachUptoRow, standIns := [], harness := (true, "f0d9783be63d8a662957696f2acc9e3d4aef57d2f34a91da2a6d7fecfdbd0dd2"), looks := false }, kinds := [], alts := [], laidByText := true, laidKinds := [.data, .data], laidTests := true, laidLooks := .later }
def MerkleEachUptoCardSaid : Prop := Claim7.holds Tryd.pinned (.plain (OpenSpec.upto merkleEachSpec)) merkleEachUptoCard

/-- THE SECOND FORM's CARD OF 'cachetlaw04.MerkleLike'. -/
def merkleLikeUptoCard : Claim7 := { stood := { row := merkleLikeUptoRow, standIns := [], harness := (true, "f0d9783be63d8a662957696f2acc9e3d4aef57d2f34a91da2a6d7fecfdbd0dd2"), looks := false }, kinds := [], alts := [], laidByText := true, laidKinds := [.data, .data], laidTests := true, laidLooks := .later }
def MerkleLikeUptoCardSaid : Prop := Claim7.holds Tryd.pinned (.plain (OpenSpec.upto merkleLikeSpec)) merkleLikeUptoCard

/-- THE SECOND FORM's CARD OF 'cachetlaw04.MerkleBent'. -/
def merkleBentUptoCard : Claim7 := { stood := { row := merkleBentUptoRow, standIns := [], harness := (true, "f0d9783be63d8a662957696f2acc9e3d4aef57d2f34a91da2a6d7fecfdbd0dd2"), looks := false }, kinds := [], alts := [], laidByText := true, laidKinds := [.data, .data], laidTests := true, laidLooks := .later }
def MerkleBentUptoCardSaid : Prop := Claim7.holds Tryd.pinned (.plain (OpenSpec.upto merkleBentSpec)) merkleBentUptoCard

/-- THE SECOND FORM's CARD OF 'cachetlaw04.MerkleLengths'. -/
def merkleLengthsUptoCard : Claim7 := { stood := { row := merkleLengthsUptoRow, standIns := [], harness := (true, "f0d9783be63d8a662957696f2acc9e3d4aef57d2f34a91da2a6d7fecfdbd0dd2"), looks := false }, kinds := [], alts := [], laidByText := true, laidKinds := [.data, .data], laidTests := true, laidLooks := .later }
def MerkleLengthsUptoCardSaid : Prop := Claim7.holds Tryd.pinned (.plain (OpenSpec.upto merkleLengthsSpec)) merkleLengthsUptoCard

/-- THE SECOND FORM's CARD OF 'cachetlaw04.MerkleHolds'. -/
def merkleHoldsUptoCard : Claim7 := { stood := { row := merkleHoldsUptoRow, standIns := [], harness := (true, "f0d9783be63d8a662957696f2acc9e3d4aef57d2f34a91da2a6d7fecfdbd0dd2"), looks := false }, kinds := [], alts := [], laidByText := true, laidKinds := [.data, .data], laidTests := true, laidLooks := .later }
def MerkleHoldsUptoCardSaid : Prop := Claim7.holds Tryd.pinned (.plain (OpenSpec.upto merkleHoldsSpec)) merkleHoldsUptoCard
end Rows
end Go.Proofs.YtcmkjgodgocdfaaDoor
