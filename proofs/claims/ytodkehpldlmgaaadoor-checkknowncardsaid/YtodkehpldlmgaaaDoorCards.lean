/-
  DERIVED. GIVEN WITH THE SEED: THE CARDS: each row of YtodkehpldlmgaaaDoorRows.lean that lists a variable, with what it lists TIED to the program's text (the seventh form; the later family's looks); each row that meets fmt, with fmt's text TOLD by the authors' own Lean function (tested against real Go, not proved from fmt's source: count such statements apart). THE CARD IS WHAT COUNTS. Prove the row's statement (the work); the ties are given (YtodkehpldlmgaaaDoorTie.lean); close each card by the builder's one call (the guide's Derived/Test/ToyasCard.lean, 'card_holds'). Laid BY PROGRAM, IN A SANDBOX (cutbox-door.mjs). By AI agents, Wed Nov 11 2026. No macro, syntax, notation, axiom, sorry.
-/
import Derived.Test.YtodkehpldlmgaaaDoorRows
import GoSem.ClaimSeven
namespace Go.Proofs.YtodkehpldlmgaaaDoor
namespace Rows

/-- THE TIED CARD OF 'cachetlaw06.CheckKnown'. -/
def checkKnownCard : Claim7 := { stood := { row := checkKnownRow, standIns := [], harness := (true, "20cfeb3127f1d3164bedd81e0fa89e63228bc48f8680dd0db00032502f9690cc"), looks := true }, kinds := [], alts := [], laidByText := true, laidKinds := [.data], laidTests := true, laidLooks := .later }
def CheckKnownCardSaid : Prop := Claim7.holds Tryd.pinned (.plain (OpenSpec.ofChange checkKnownSpec)) checkKnownCard

/-- THE TIED CARD OF 'cachetlaw06.CheckBehind'. -/
def checkBehindCard : Claim7 := { stood := { row := checkBehindRow, standIns := [], harness := (true, "20cfeb3127f1d3164bedd81e0fa89e63228bc48f8680dd0db00032502f9690cc"), looks := true }, kinds := [], alts := [], laidByText := true, laidKinds := [.data], laidTests := true, laidLooks := .later }
def CheckBehindCardSaid : Prop := Claim7.holds Tryd.pinned (.plain (OpenSpec.ofChange checkBehindSpec)) checkBehindCard

/-- THE TIED CARD OF 'cachetlaw06.CheckSums'. -/
def checkSumsCard : Claim7 := { stood := { row := checkSumsRow, standIns := [], harness := (true, "20cfeb3127f1d3164bedd81e0fa89e63228bc48f8680dd0db00032502f9690cc"), looks := true }, kinds := [], alts := [], laidByText := true, laidKinds := [.data], laidTests := true, laidLooks := .later }
def CheckSumsCardSaid : Prop := Claim7.holds Tryd.pinned (.plain (OpenSpec.ofChange checkSumsSpec)) checkSumsCard

/-- THE TIED CARD OF 'cachetlaw06.CheckJumps'. -/
def checkJumpsCard : Claim7 := { stood := { row := checkJumpsRow, standIns := [], harness := (true, "20cfeb3127f1d3164bedd81e0fa89e63228bc48f8680dd0db00032502f9690cc"), looks := true }, kinds := [], alts := [], laidByText := true, laidKinds := [.data], laidTests := true, laidLooks := .later }
def CheckJumpsCardSaid : Prop := Claim7.holds Tryd.pinned (.plain (OpenSpec.ofChange checkJumpsSpec)) checkJumpsCard

/-- THE TIED CARD OF 'cachetlaw06.CheckBounds'. -/
def checkBoundsCard : Claim7 := { stood := { row := checkBoundsRow, standIns := [], harness := (true, "20cfeb3127f1d3164bedd81e0fa89e63228bc48f8680dd0db00032502f9690cc"), looks := true }, kinds := [], alts := [], laidByText := true, laidKinds := [.data], laidTests := true, laidLooks := .later }
def CheckBoundsCardSaid : Prop := Claim7.holds Tryd.pinned (.plain (OpenSpec.ofChange checkBoundsSpec)) checkBoundsCard

/-- THE TIED CARD OF 'cachetlaw06.CheckWithin'. -/
def checkWithinCard : Claim7 := { stood := { row := checkWithinRow, standIns := [], harness := (true, "20cfeb3127f1d3164bedd81e0fa89e63228bc48f8680dd0db00032502f9690cc"), looks := true }, kinds := [], alts := [], laidByText := true, laidKinds := [.data], laidTests := true, laidLooks := .later }
def CheckWithinCardSaid : Prop := Claim7.holds Tryd.pinned (.plain (OpenSpec.ofChange checkWithinSpec)) checkWithinCard

/-- THE TIED CARD OF 'cachetlaw06.CheckUnset'. -/
def checkUnsetCard : Claim7 := { stood := { row := checkUnsetRow, standIns := [], harness := (true, "20cfeb3127f1d3164bedd81e0fa89e63228bc48f8680dd0db00032502f9690cc"), looks := true }, kinds := [], alts := [], laidByText := true, laidKinds := [.data], laidTests := true, laidLooks := .later }
def CheckUnsetCardSaid : Prop := Claim7.holds Tryd.pinned (.plain (OpenSpec.ofChange checkUnsetSpec)) checkUnsetCard

/-- THE TIED CARD OF 'cachetlaw06.CheckEnds'. -/
def checkEndsCard : Claim7 := { stood := { row := checkEndsRow, standIns := [], harness := (true, "20cfeb3127f1d3164bedd81e0fa89e63228bc48f8680dd0db00032502f9690cc"), looks := true }, kinds := [], alts := [], laidByText := true, laidKinds := [.data], laidTests := true, laidLooks := .later }
def CheckEndsCardSaid : Prop := Claim7.holds Tryd.pinned (.plain (OpenSpec.ofChange checkEndsSpec)) checkEndsCard

/-- THE TIED CARD OF 'cachetlaw06.CheckWays'. -/
def checkWaysCard : Claim7 := { stood := { row := checkWaysRow, standIns := [], harness := (true, "20cfeb3127f1d3164bedd81e0fa89e63228bc48f8680dd0db00032502f9690cc"), looks := true }, kinds := [], alts := [], laidByText := true, laidKinds := [.data], laidTests := true, laidLooks := .later }
def CheckWaysCardSaid : Prop := Claim7.holds Tryd.pinned (.plain (OpenSpec.ofChange checkWaysSpec)) checkWaysCard

/-- THE SECOND FORM's CARD OF 'cachetlaw06.CheckKnown'. -/
def checkKnownUptoCard : Claim7 := { stood := { row := checkKnownUptoRow, standIns := [], harness := (true, "20cfeb3127f1d3164bedd81e0fa89e63228bc48f8680dd0db00032502f9690cc"), looks := true }, kinds := [], alts := [], laidByText := true, laidKinds := [.data], laidTests := true, laidLooks := .later }
def CheckKnownUptoCardSaid : Prop := Claim7.holds Tryd.pinned (.plain (OpenSpec.upto checkKnownSpec)) checkKnownUptoCard

/-- THE SECOND FORM's CARD OF 'cachetlaw06.CheckBehind'. -/
def checkBehindUptoCard : Claim7 := { stood := { row := checkBehindUptoRow, standIns := [], harness := (true, "20cfeb3127f1d3164bedd81e0fa89e63228bc48f8680dd0db00032502f9690cc"), looks := true }, kinds := [], alts := [], laidByText := true, laidKinds := [.data], laidTests := true, laidLooks := .later }
def CheckBehindUptoCardSaid : Prop := Claim7.holds Tryd.pinned (.plain (OpenSpec.upto checkBehindSpec)) checkBehindUptoCard

/-- THE SECOND FORM's CARD OF 'cachetlaw06.CheckSums'. -/
def checkSumsUptoCard : Claim7 := { stood := { row := checkSumsUptoRow, standIns := [], harness := (true, "20cfeb3127f1d3164bedd81e0fa89e63228bc48f8680dd0db00032502f9690cc"), looks := true }, kinds := [], alts := [], laidByText := true, laidKinds := [.data], laidTests := true, laidLooks := .later }
def CheckSumsUptoCardSaid : Prop := Claim7.holds Tryd.pinned (.plain (OpenSpec.upto checkSumsSpec)) checkSumsUptoCard

/-- THE SECOND FORM's CARD OF 'cachetlaw06.CheckJumps'. -/
def checkJumpsUptoCard : Claim7 := { stood := { row := checkJumpsUptoRow, standIns := [], harness := (true, "20cfeb3127f1d3164bedd81e0fa89e63228bc48f8680dd0db00032502f9690cc"), looks := true }, kinds := [], alts := [], laidByText := true, laidKinds := [.data], laidTests := true, laidLooks := .later }
def CheckJumpsUptoCardSaid : Prop := Claim7.holds Tryd.pinned (.plain (OpenSpec.upto checkJumpsSpec)) checkJumpsUptoCard

/-- THE SECOND FORM's CARD OF 'cachetlaw06.CheckBounds'. -/
def checkBoundsUptoCard : Claim7 := { stood := { row := checkBoundsUptoRow, standIns := [], harness := (true, "20cfeb3127f1d3164bedd81e0fa89e63228bc48f8680dd0db00032502f9690cc"), looks := true }, kinds := [], alts := [], laidByText := true, laidKinds := [.data], laidTests := true, laidLooks := .later }
def CheckBoundsUptoCardSaid : Prop := Claim7.holds Tryd.pinned (.plain (OpenSpec.upto checkBoundsSpec)) checkBoundsUptoCard

/-- THE SECOND FORM's CARD OF 'cachetlaw06.CheckWithin'. -/
def checkWithinUptoCard : Claim7 := { stood := { row := checkWithinUptoRow, standIns := [], harness := (true, "20cfeb3127f1d3164bedd81e0fa89e63228bc48f8680dd0db00032502f9690cc"), looks := true }, kinds := [], alts := [], laidByText := true, laidKinds := [.data], laidTests := true, laidLooks := .later }
def CheckWithinUptoCardSaid : Prop := Claim7.holds Tryd.pinned (.plain (OpenSpec.upto checkWithinSpec)) checkWithinUptoCard

/-- THE SECOND FORM's CARD OF 'cachetlaw06.CheckUnset'. -/
def checkUnsetUptoCard : Claim7 := { stood := { row := checkUnsetUptoRow, standIns := [], harness := (true, "20cfeb3127f1d3164bedd81e0fa89e63228bc48f8680dd0db00032502f9690cc"), looks := true }, kinds := [], alts := [], laidByText := true, laidKinds := [.data], laidTests := true, laidLooks := .later }
def CheckUnsetUptoCardSaid : Prop := Claim7.holds Tryd.pinned (.plain (OpenSpec.upto checkUnsetSpec)) checkUnsetUptoCard

/-- THE SECOND FORM's CARD OF 'cachetlaw06.CheckEnds'. -/
def checkEndsUptoCard : Claim7 := { stood := { row := checkEndsUptoRow, standIns := [], harness := (true, "20cfeb3127f1d3164bedd81e0fa89e63228bc48f8680dd0db00032502f9690cc"), looks := true }, kinds := [], alts := [], laidByText := true, laidKinds := [.data], laidTests := true, laidLooks := .later }
def CheckEndsUptoCardSaid : Prop := Claim7.holds Tryd.pinned (.plain (OpenSpec.upto checkEndsSpec)) checkEndsUptoCard

/-- THE SECOND FORM's CARD OF 'cachetlaw06.CheckWays'. -/
def checkWaysUptoCard : Claim7 := { stood := { row := checkWaysUptoRow, standIns := [], harness := (true, "20cfeb3127f1d3164bedd81e0fa89e63228bc48f8680dd0db00032502f9690cc"), looks := true }, kinds := [], alts := [], laidByText := true, laidKinds := [.data], laidTests := true, laidLooks := .later }
def CheckWaysUptoCardSaid : Prop := Claim7.holds Tryd.pinned (.plain (OpenSpec.upto checkWaysSpec)) checkWaysUptoCard
end Rows
end Go.Proofs.YtodkehpldlmgaaaDoor
