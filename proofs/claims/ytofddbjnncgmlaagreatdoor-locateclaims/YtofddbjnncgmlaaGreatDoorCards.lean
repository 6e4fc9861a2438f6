/-
  DERIVED. GIVEN WITH THE SEED: THE CARDS: each row of YtofddbjnncgmlaaGreatDoorRows.lean that lists a variable, with what it lists TIED to the program's text (the seventh form; the later family's looks); each row that meets fmt, with fmt's text TOLD by the authors' own Lean function (tested against real Go, not proved from fmt's source: count such statements apart). THE CARD IS WHAT COUNTS. Prove the row's statement (the work); the ties are given (YtofddbjnncgmlaaGreatDoorTie.lean); close each card by the builder's one call (the guide's Derived/Test/ToyasCard.lean, 'card_holds'). Laid BY PROGRAM, IN A SANDBOX (cutbox-door.mjs). By AI agents, Wed Nov 11 2026. No macro, syntax, notation, axiom, sorry.
-/
import Derived.Test.YtofddbjnncgmlaaGreatDoorRows
import GoSem.ClaimSeven
namespace Go.Proofs.YtofddbjnncgmlaaGreatDoor
namespace Rows

/-- THE TIED CARD OF 'bedrocklaw14.TreeGrows'. -/
def treeGrowsCard : Claim7 := { stood := { row := treeGrowsRow, standIns := [], harness := (true, "12dfac97f02f57c0717dd78c0576610404b066ebf3d5cf77fee62b2eaf2aac74"), looks := true }, kinds := [], alts := [], laidByText := true, laidKinds := [.data], laidTests := true, laidLooks := .later }
def TreeGrowsCardSaid : Prop := Claim7.holds Tryz.pinned (.plain (OpenSpec.ofChange treeGrowsSpec)) treeGrowsCard

/-- THE TIED CARD OF 'bedrocklaw14.TreeOrders'. -/
def treeOrdersCard : Claim7 := { stood := { row := treeOrdersRow, standIns := [], harness := (true, "12dfac97f02f57c0717dd78c0576610404b066ebf3d5cf77fee62b2eaf2aac74"), looks := true }, kinds := [], alts := [], laidByText := true, laidKinds := [.data], laidTests := true, laidLooks := .later }
def TreeOrdersCardSaid : Prop := Claim7.holds Tryz.pinned (.plain (OpenSpec.ofChange treeOrdersSpec)) treeOrdersCard

/-- THE TIED CARD OF 'bedrocklaw15.LocateClaims'. -/
def locateClaimsCard : Claim7 := { stood := { row := locateClaimsRow, standIns := [], harness := (true, "12dfac97f02f57c0717dd78c0576610404b066ebf3d5cf77fee62b2eaf2aac74"), looks := true }, kinds := [], alts := [], laidByText := true, laidKinds := [.data], laidTests := true, laidLooks := .later }
def LocateClaimsCardSaid : Prop := Claim7.holds Tryz.pinned (.plain (OpenSpec.ofChange locateClaimsSpec)) locateClaimsCard

/-- THE TIED CARD OF 'bedrocklaw16.ValidPlays'. -/
def validPlaysCard : Claim7 := { stood := { row := validPlaysRow, standIns := [], harness := (true, "12dfac97f02f57c0717dd78c0576610404b066ebf3d5cf77fee62b2eaf2aac74"), looks := true }, kinds := [], alts := [], laidByText := true, laidKinds := [.data], laidTests := true, laidLooks := .later }
def ValidPlaysCardSaid : Prop := Claim7.holds Tryz.pinned (.plain (OpenSpec.ofChange validPlaysSpec)) validPlaysCard

/-- THE TIED CARD OF 'bedrocklaw16.ValidBack'. -/
def validBackCard : Claim7 := { stood := { row := validBackRow, standIns := [], harness := (true, "12dfac97f02f57c0717dd78c0576610404b066ebf3d5cf77fee62b2eaf2aac74"), looks := true }, kinds := [], alts := [], laidByText := true, laidKinds := [.data], laidTests := true, laidLooks := .later }
def ValidBackCardSaid : Prop := Claim7.holds Tryz.pinned (.plain (OpenSpec.ofChange validBackSpec)) validBackCard

/-- THE TIED CARD OF 'bedrocklaw16.ValidBytes'. -/
def validBytesCard : Claim7 := { stood := { row := validBytesRow, standIns := [], harness := (true, "12dfac97f02f57c0717dd78c0576610404b066ebf3d5cf77fee62b2eaf2aac74"), looks := true }, kinds := [], alts := [], laidByText := true, laidKinds := [.data], laidTests := true, laidLooks := .later }
def ValidBytesCardSaid : Prop := Claim7.holds Tryz.pinned (.plain (OpenSpec.ofChange validBytesSpec)) validBytesCard

/-- THE SECOND FORM's CARD OF 'bedrocklaw14.TreeGrows'. -/
def treeGrowsUptoCard : Claim7 := { stood := { row := treeGrowsUptoRow, standIns := [], harness := (true, "12dfac97f02f57c0717dd78c0576610404b066ebf3d5cf77fee62b2eaf2aac74"), looks := true }, kinds := [], alts := [], laidByText := true, laidKinds := [.data], laidTests := true, laidLooks := .later }
def TreeGrowsUptoCardSaid : Prop := Claim7.holds Tryz.pinned (.plain (OpenSpec.upto treeGrowsSpec)) treeGrowsUptoCard

/-- THE SECOND FORM's CARD OF 'bedrocklaw14.TreeOrders'. -/
def treeOrdersUptoCard : Claim7 := { stood := { row := treeOrdersUptoRow, standIns := [], harness := (true, "12dfac97f02f57c0717dd78c0576610404b066ebf3d5cf77fee62b2eaf2aac74"), looks := true }, kinds := [], alts := [], laidByText := true, laidKinds := [.data], laidTests := true, laidLooks := .later }
def TreeOrdersUptoCardSaid : Prop := Claim7.holds Tryz.pinned (.plain (OpenSpec.upto treeOrdersSpec)) treeOrdersUptoCard

/-- THE SECOND FORM's CARD OF 'bedrocklaw15.LocateClaims'. -/
def locateClaimsUptoCard : Claim7 := { stood := { row := locateClaimsUptoRow, standIns := [], harness := (true, "12dfac97f02f57c0717dd78c0576610404b066ebf3d5cf77fee62b2eaf2aac74"), looks := true }, kinds := [], alts := [], laidByText := true, laidKinds := [.data], laidTests := true, laidLooks := .later }
def LocateClaimsUptoCardSaid : Prop := Claim7.holds Tryz.pinned (.plain (OpenSpec.upto locateClaimsSpec)) locateClaimsUptoCard

/-- THE SECOND FORM's CARD OF 'bedrocklaw16.ValidPlays'. -/
def validPlaysUptoCard : Claim7 := { stood := { row := validPlaysUptoRow, standIns := [], harness := (true, "12dfac97f02f57c0717dd78c0576610404b066ebf3d5cf77fee62b2eaf2aac74"), looks := true }, kinds := [], alts := [], laidByText := true, laidKinds := [.data], laidTests := true, laidLooks := .later }
def ValidPlaysUptoCardSaid : Prop := Claim7.holds Tryz.pinned (.plain (OpenSpec.upto validPlaysSpec)) validPlaysUptoCard

/-- THE SECOND FORM's CARD OF 'bedrocklaw16.ValidBack'. -/
def validBackUptoCard : Claim7 := { stood := { row := validBackUptoRow, standIns := [], harness := (true, "12dfac97f02f57c0717dd78c0576610404b066ebf3d5cf77fee62b2eaf2aac74"), looks := true }, kinds := [], alts := [], laidByText := true, laidKinds := [.data], laidTests := true, laidLooks := .later }
def ValidBackUptoCardSaid : Prop := Claim7.holds Tryz.pinned (.plain (OpenSpec.upto validBackSpec)) validBackUptoCard

/-- THE SECOND FORM's CARD OF 'bedrocklaw16.ValidBytes'. -/
def validBytesUptoCard : Claim7 := { stood := { row := validBytesUptoRow, standIns := [], harness := (true, "12dfac97f02f57c0717dd78c0576610404b066ebf3d5cf77fee62b2eaf2aac74"), looks := true }, kinds := [], alts := [], laidByText := true, laidKinds := [.data], laidTests := true, laidLooks := .later }
def ValidBytesUptoCardSaid : Prop := Claim7.holds Tryz.pinned (.plain (OpenSpec.upto validBytesSpec)) validBytesUptoCard
end Rows
end Go.Proofs.YtofddbjnncgmlaaGreatDoor
