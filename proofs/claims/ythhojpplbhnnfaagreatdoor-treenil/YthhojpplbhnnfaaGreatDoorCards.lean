/-
  DERIVED. GIVEN WITH THE SEED: THE CARDS: each row of YthhojpplbhnnfaaGreatDoorRows.lean that lists a variable, with what it lists TIED to the program's text (the seventh form; the later family's looks); each row that meets fmt, with fmt's text TOLD by the authors' own Lean function (tested against real Go, not proved from fmt's source: count such statements apart). THE CARD IS WHAT COUNTS. Prove the row's statement (the work); the ties are given (YthhojpplbhnnfaaGreatDoorTie.lean); close each card by the builder's one call (the guide's Derived/Test/ToyasCard.lean, 'card_holds'). Laid BY PROGRAM, IN A SANDBOX (cutbox-door.mjs). By AI agents, Wed Nov 11 2026. No macro, syntax, notation, axiom, sorry.
-/
import Derived.Test.YthhojpplbhnnfaaGreatDoorRows
import GoSem.ClaimSeven
namespace Go.Proofs.YthhojpplbhnnfaaGreatDoor
namespace Rows

/-- THE TIED CARD OF 'bedrocklaw14.TreeGrows'. -/
def treeGrowsCard : Claim7 := { stood := { row := treeGrowsRow, standIns := [], harness := (true, "f1c37ad17d9053be1d86f87f8c76dacbdd977d4b3bcc00e1ad7629859ea0caf3"), looks := true }, kinds := [], alts := [], laidByText := true, laidKinds := [.data], laidTests := true, laidLooks := .later }
def TreeGrowsCardSaid : Prop := Claim7.holds Tryz.pinned (.plain (OpenSpec.ofChange treeGrowsSpec)) treeGrowsCard

/-- THE TIED CARD OF 'bedrocklaw14.TreeOrders'. -/
def treeOrdersCard : Claim7 := { stood := { row := treeOrdersRow, standIns := [], harness := (true, "f1c37ad17d9053be1d86f87f8c76dacbdd977d4b3bcc00e1ad7629859ea0caf3"), looks := true }, kinds := [], alts := [], laidByText := true, laidKinds := [.data], laidTests := true, laidLooks := .later }
def TreeOrdersCardSaid : Prop := Claim7.holds Tryz.pinned (.plain (OpenSpec.ofChange treeOrdersSpec)) treeOrdersCard

/-- THE TIED CARD OF 'bedrocklaw14.TreeNil'. -/
def treeNilCard : Claim7 := { stood := { row := treeNilRow, standIns := [], harness := (true, "f1c37ad17d9053be1d86f87f8c76dacbdd977d4b3bcc00e1ad7629859ea0caf3"), looks := true }, kinds := [], alts := [], laidByText := true, laidKinds := [.data], laidTests := true, laidLooks := .later }
def TreeNilCardSaid : Prop := Claim7.holds Tryz.pinned (.plain (OpenSpec.ofChange treeNilSpec)) treeNilCard

/-- THE TIED CARD OF 'bedrocklaw15.LocateClaims'. -/
def locateClaimsCard : Claim7 := { stood := { row := locateClaimsRow, standIns := [], harness := (true, "f1c37ad17d9053be1d86f87f8c76dacbdd977d4b3bcc00e1ad7629859ea0caf3"), looks := true }, kinds := [], alts := [], laidByText := true, laidKinds := [.data], laidTests := true, laidLooks := .later }
def LocateClaimsCardSaid : Prop := Claim7.holds Tryz.pinned (.plain (OpenSpec.ofChange locateClaimsSpec)) locateClaimsCard

/-- THE TIED CARD OF 'bedrocklaw15.LocateNil'. -/
def locateNilCard : Claim7 := { stood := { row := locateNilRow, standIns := [], harness := (true, "f1c37ad17d9053be1d86f87f8c76dacbdd977d4b3bcc00e1ad7629859ea0caf3"), looks := true }, kinds := [], alts := [], laidByText := true, laidKinds := [.data], laidTests := true, laidLooks := .later }
def LocateNilCardSaid : Prop := Claim7.holds Tryz.pinned (.plain (OpenSpec.ofChange locateNilSpec)) locateNilCard

/-- THE SECOND FORM's CARD OF 'bedrocklaw14.TreeGrows'. -/
def treeGrowsUptoCard : Claim7 := { stood := { row := treeGrowsUptoRow, standIns := [], harness := (true, "f1c37ad17d9053be1d86f87f8c76dacbdd977d4b3bcc00e1ad7629859ea0caf3"), looks := true }, kinds := [], alts := [], laidByText := true, laidKinds := [.data], laidTests := true, laidLooks := .later }
def TreeGrowsUptoCardSaid : Prop := Claim7.holds Tryz.pinned (.plain (OpenSpec.upto treeGrowsSpec)) treeGrowsUptoCard

/-- THE SECOND FORM's CARD OF 'bedrocklaw14.TreeOrders'. -/
def treeOrdersUptoCard : Claim7 := { stood := { row := treeOrdersUptoRow, standIns := [], harness := (true, "f1c37ad17d9053be1d86f87f8c76dacbdd977d4b3bcc00e1ad7629859ea0caf3"), looks := true }, kinds := [], alts := [], laidByText := true, laidKinds := [.data], laidTests := true, laidLooks := .later }
def TreeOrdersUptoCardSaid : Prop := Claim7.holds Tryz.pinned (.plain (OpenSpec.upto treeOrdersSpec)) treeOrdersUptoCard

/-- THE SECOND FORM's CARD OF 'bedrocklaw14.TreeNil'. -/
def treeNilUptoCard : Claim7 := { stood := { row := treeNilUptoRow, standIns := [], harness := (true, "f1c37ad17d9053be1d86f87f8c76dacbdd977d4b3bcc00e1ad7629859ea0caf3"), looks := true }, kinds := [], alts := [], laidByText := true, laidKinds := [.data], laidTests := true, laidLooks := .later }
def TreeNilUptoCardSaid : Prop := Claim7.holds Tryz.pinned (.plain (OpenSpec.upto treeNilSpec)) treeNilUptoCard

/-- THE SECOND FORM's CARD OF 'bedrocklaw15.LocateClaims'. -/
def locateClaimsUptoCard : Claim7 := { stood := { row := locateClaimsUptoRow, standIns := [], harness := (true, "f1c37ad17d9053be1d86f87f8c76dacbdd977d4b3bcc00e1ad7629859ea0caf3"), looks := true }, kinds := [], alts := [], laidByText := true, laidKinds := [.data], laidTests := true, laidLooks := .later }
def LocateClaimsUptoCardSaid : Prop := Claim7.holds Tryz.pinned (.plain (OpenSpec.upto locateClaimsSpec)) locateClaimsUptoCard

/-- THE SECOND FORM's CARD OF 'bedrocklaw15.LocateNil'. -/
def locateNilUptoCard : Claim7 := { stood := { row := locateNilUptoRow, standIns := [], harness := (true, "f1c37ad17d9053be1d86f87f8c76dacbdd977d4b3bcc00e1ad7629859ea0caf3"), looks := true }, kinds := [], alts := [], laidByText := true, laidKinds := [.data], laidTests := true, laidLooks := .later }
def LocateNilUptoCardSaid : Prop := Claim7.holds Tryz.pinned (.plain (OpenSpec.upto locateNilSpec)) locateNilUptoCard
end Rows
end Go.Proofs.YthhojpplbhnnfaaGreatDoor
