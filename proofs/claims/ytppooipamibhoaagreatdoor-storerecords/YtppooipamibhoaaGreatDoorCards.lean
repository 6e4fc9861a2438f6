/-
  DERIVED. GIVEN WITH THE SEED: THE CARDS: each row of YtppooipamibhoaaGreatDoorRows.lean that lists a variable, with what it lists TIED to the program's text (the seventh form; the later family's looks); each row that meets fmt, with fmt's text TOLD by the authors' own Lean function (tested against real Go, not proved from fmt's source: count such statements apart). THE CARD IS WHAT COUNTS. Prove the row's statement (the work); the ties are given (YtppooipamibhoaaGreatDoorTie.lean); close each card by the builder's one call (the guide's Derived/Test/ToyasCard.lean, 'card_holds'). Laid BY PROGRAM, IN A SANDBOX (cutbox-door.mjs). By AI agents, Wed Nov 11 2026. No macro, syntax, notation, axiom, sorry.
-/
import Derived.Test.YtppooipamibhoaaGreatDoorRows
import GoSem.ClaimSeven
namespace Go.Proofs.YtppooipamibhoaaGreatDoor
namespace Rows

/-- THE TIED CARD OF 'bedrocklaw14.TreeGrows'. -/
def treeGrowsCard : Claim7 := { stood := { row := treeGrowsRow, standIns := [], harness := (true, "8c5ca4b106e57598964d522cecfc5e2b4391cc2aaefb0331b8f098c7cd0f996c"), looks := true }, kinds := [], alts := [], laidByText := true, laidKinds := [.data], laidTests := true, laidLooks := .later }
def TreeGrowsCardSaid : Prop := Claim7.holds Tryz.pinned (.plain (OpenSpec.ofChange treeGrowsSpec)) treeGrowsCard

/-- THE TIED CARD OF 'bedrocklaw14.TreeOrders'. -/
def treeOrdersCard : Claim7 := { stood := { row := treeOrdersRow, standIns := [], harness := (true, "8c5ca4b106e57598964d522cecfc5e2b4391cc2aaefb0331b8f098c7cd0f996c"), looks := true }, kinds := [], alts := [], laidByText := true, laidKinds := [.data], laidTests := true, laidLooks := .later }
def TreeOrdersCardSaid : Prop := Claim7.holds Tryz.pinned (.plain (OpenSpec.ofChange treeOrdersSpec)) treeOrdersCard

/-- THE TIED CARD OF 'bedrocklaw16.ValidCopies'. -/
def validCopiesCard : Claim7 := { stood := { row := validCopiesRow, standIns := [], harness := (true, "8c5ca4b106e57598964d522cecfc5e2b4391cc2aaefb0331b8f098c7cd0f996c"), looks := true }, kinds := [], alts := [], laidByText := true, laidKinds := [.data], laidTests := true, laidLooks := .later }
def ValidCopiesCardSaid : Prop := Claim7.holds Tryz.pinned (.plain (OpenSpec.ofChange validCopiesSpec)) validCopiesCard

/-- THE TIED CARD OF 'bedrocklaw18.StorePlays'. -/
def storePlaysCard : Claim7 := { stood := { row := storePlaysRow, standIns := [], harness := (true, "8c5ca4b106e57598964d522cecfc5e2b4391cc2aaefb0331b8f098c7cd0f996c"), looks := true }, kinds := [], alts := [], laidByText := true, laidKinds := [.data, .data, .data, .data], laidTests := true, laidLooks := .later }
def StorePlaysCardSaid : Prop := Claim7.holds Tryz.pinned (.plain (OpenSpec.ofChange storePlaysSpec)) storePlaysCard

/-- THE TIED CARD OF 'bedrocklaw18.StoreFalls'. -/
def storeFallsCard : Claim7 := { stood := { row := storeFallsRow, standIns := [], harness := (true, "8c5ca4b106e57598964d522cecfc5e2b4391cc2aaefb0331b8f098c7cd0f996c"), looks := true }, kinds := [], alts := [], laidByText := true, laidKinds := [.data, .data, .data, .data], laidTests := true, laidLooks := .later }
def StoreFallsCardSaid : Prop := Claim7.holds Tryz.pinned (.plain (OpenSpec.ofChange storeFallsSpec)) storeFallsCard

/-- THE TIED CARD OF 'bedrocklaw18.StoreRecords'. -/
def storeRecordsCard : Claim7 := { stood := { row := storeRecordsRow, standIns := [], harness := (true, "8c5ca4b106e57598964d522cecfc5e2b4391cc2aaefb0331b8f098c7cd0f996c"), looks := true }, kinds := [], alts := [], laidByText := true, laidKinds := [.data, .data, .data, .data], laidTests := true, laidLooks := .later }
def StoreRecordsCardSaid : Prop := Claim7.holds Tryz.pinned (.plain (OpenSpec.ofChange storeRecordsSpec)) storeRecordsCard

/-- THE SECOND FORM's CARD OF 'bedrocklaw14.TreeGrows'. -/
def treeGrowsUptoCard : Claim7 := { stood := { row := treeGrowsUptoRow, standIns := [], harness := (true, "8c5ca4b106e57598964d522cecfc5e2b4391cc2aaefb0331b8f098c7cd0f996c"), looks := true }, kinds := [], alts := [], laidByText := true, laidKinds := [.data], laidTests := true, laidLooks := .later }
def TreeGrowsUptoCardSaid : Prop := Claim7.holds Tryz.pinned (.plain (OpenSpec.upto treeGrowsSpec)) treeGrowsUptoCard

/-- THE SECOND FORM's CARD OF 'bedrocklaw14.TreeOrders'. -/
def treeOrdersUptoCard : Claim7 := { stood := { row := treeOrdersUptoRow, standIns := [], harness := (true, "8c5ca4b106e57598964d522cecfc5e2b4391cc2aaefb0331b8f098c7cd0f996c"), looks := true }, kinds := [], alts := [], laidByText := true, laidKinds := [.data], laidTests := true, laidLooks := .later }
def TreeOrdersUptoCardSaid : Prop := Claim7.holds Tryz.pinned (.plain (OpenSpec.upto treeOrdersSpec)) treeOrdersUptoCard

/-- THE SECOND FORM's CARD OF 'bedrocklaw16.ValidCopies'. -/
def validCopiesUptoCard : Claim7 := { stood := { row := validCopiesUptoRow, standIns := [], harness := (true, "8c5ca4b106e57598964d522cecfc5e2b4391cc2aaefb0331b8f098c7cd0f996c"), looks := true }, kinds := [], alts := [], laidByText := true, laidKinds := [.data], laidTests := true, laidLooks := .later }
def ValidCopiesUptoCardSaid : Prop := Claim7.holds Tryz.pinned (.plain (OpenSpec.upto validCopiesSpec)) validCopiesUptoCard

/-- THE SECOND FORM's CARD OF 'bedrocklaw18.StorePlays'. -/
def storePlaysUptoCard : Claim7 := { stood := { row := storePlaysUptoRow, standIns := [], harness := (true, "8c5ca4b106e57598964d522cecfc5e2b4391cc2aaefb0331b8f098c7cd0f996c"), looks := true }, kinds := [], alts := [], laidByText := true, laidKinds := [.data, .data, .data, .data], laidTests := true, laidLooks := .later }
def StorePlaysUptoCardSaid : Prop := Claim7.holds Tryz.pinned (.plain (OpenSpec.upto storePlaysSpec)) storePlaysUptoCard

/-- THE SECOND FORM's CARD OF 'bedrocklaw18.StoreFalls'. -/
def storeFallsUptoCard : Claim7 := { stood := { row := storeFallsUptoRow, standIns := [], harness := (true, "8c5ca4b106e57598964d522cecfc5e2b4391cc2aaefb0331b8f098c7cd0f996c"), looks := true }, kinds := [], alts := [], laidByText := true, laidKinds := [.data, .data, .data, .data], laidTests := true, laidLooks := .later }
def StoreFallsUptoCardSaid : Prop := Claim7.holds Tryz.pinned (.plain (OpenSpec.upto storeFallsSpec)) storeFallsUptoCard

/-- THE SECOND FORM's CARD OF 'bedrocklaw18.StoreRecords'. -/
def storeRecordsUptoCard : Claim7 := { stood := { row := storeRecordsUptoRow, standIns := [], harness := (true, "8c5ca4b106e57598964d522cecfc5e2b4391cc2aaefb0331b8f098c7cd0f996c"), looks := true }, kinds := [], alts := [], laidByText := true, laidKinds := [.data, .data, .data, .data], laidTests := true, laidLooks := .later }
def StoreRecordsUptoCardSaid : Prop := Claim7.holds Tryz.pinned (.plain (OpenSpec.upto storeRecordsSpec)) storeRecordsUptoCard
end Rows
end Go.Proofs.YtppooipamibhoaaGreatDoor
