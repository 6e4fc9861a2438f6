/-
  DERIVED. GIVEN WITH THE SEED: THE CARDS: each row of YtdkemnjkhclbkaaDoorRows.lean that lists a variable, with what it lists TIED to the program's text (the seventh form; the later family's looks); each row that meets fmt, with fmt's text TOLD by the authors' own Lean function (tested against real Go, not proved from fmt's source: count such statements apart). THE CARD IS WHAT COUNTS. Prove the row's statement (the work); the ties are given (YtdkemnjkhclbkaaDoorTie.lean); close each card by the builder's one call (the guide's Derived/Test/ToyasCard.lean, 'card_holds'). Laid BY PROGRAM, IN A SANDBOX (cutbox-door.mjs). By AI agents, Wed Nov 11 2026. No macro, syntax, notation, axiom, sorry.
-/
import Derived.Test.YtdkemnjkhclbkaaDoorRows
import GoSem.ClaimSeven
namespace Go.Proofs.YtdkemnjkhclbkaaDoor
namespace Rows

/-- THE TIED CARD OF 'bedrocklaw11.BlockRoots'. -/
def blockRootsCard : Claim7 := { stood := { row := blockRootsRow, standIns := [], harness := (true, "736a89b48babdd331f83acc48d523ddf4bddd52d7287e5caa1ffe4ef4a425054"), looks := false }, kinds := [], alts := [], laidByText := true, laidKinds := [.data], laidTests := true, laidLooks := .later }
def BlockRootsCardSaid : Prop := Claim7.holds Tryd.pinned (.plain (OpenSpec.ofChange blockRootsSpec)) blockRootsCard

/-- THE TIED CARD OF 'bedrocklaw11.BlockBases'. -/
def blockBasesCard : Claim7 := { stood := { row := blockBasesRow, standIns := [], harness := (true, "736a89b48babdd331f83acc48d523ddf4bddd52d7287e5caa1ffe4ef4a425054"), looks := false }, kinds := [], alts := [], laidByText := true, laidKinds := [.data], laidTests := true, laidLooks := .later }
def BlockBasesCardSaid : Prop := Claim7.holds Tryd.pinned (.plain (OpenSpec.ofChange blockBasesSpec)) blockBasesCard

/-- THE SECOND FORM's CARD OF 'bedrocklaw11.BlockRoots'. -/
def blockRootsUptoCard : Claim7 := { stood := { row := blockRootsUptoRow, standIns := [], harness := (true, "736a89b48babdd331f83acc48d523ddf4bddd52d7287e5caa1ffe4ef4a425054"), looks := false }, kinds := [], alts := [], laidByText := true, laidKinds := [.data], laidTests := true, laidLooks := .later }
def BlockRootsUptoCardSaid : Prop := Claim7.holds Tryd.pinned (.plain (OpenSpec.upto blockRootsSpec)) blockRootsUptoCard

/-- THE SECOND FORM's CARD OF 'bedrocklaw11.BlockBases'. -/
def blockBasesUptoCard : Claim7 := { stood := { row := blockBasesUptoRow, standIns := [], harness := (true, "736a89b48babdd331f83acc48d523ddf4bddd52d7287e5caa1ffe4ef4a425054"), looks := false }, kinds := [], alts := [], laidByText := true, laidKinds := [.data], laidTests := true, laidLooks := .later }
def BlockBasesUptoCardSaid : Prop := Claim7.holds Tryd.pinned (.plain (OpenSpec.upto blockBasesSpec)) blockBasesUptoCard
end Rows
end Go.Proofs.YtdkemnjkhclbkaaDoor
