/-
  DERIVED. GIVEN WITH THE SEED: THE CARDS: each row of YtdkemnjkhclbkaaGreatDoorRows.lean that lists a variable, with what it lists TIED to the program's text (the seventh form; the later family's looks); each row that meets fmt, with fmt's text TOLD by the authors' own Lean function (tested against real Go, not proved from fmt's source: count such statements apart). THE CARD IS WHAT COUNTS. Prove the row's statement (the work); the ties are given (YtdkemnjkhclbkaaGreatDoorTie.lean); close each card by the builder's one call (the guide's Derived/Test/ToyasCard.lean, 'card_holds'). Laid BY PROGRAM, IN A SANDBOX (cutbox-door.mjs). By AI agents, Wed Nov 11 2026. No macro, syntax, notation, axiom, sorry.
-/
import Derived.Test.YtdkemnjkhclbkaaGreatDoorRows
import GoSem.ClaimSeven
namespace Go.Proofs.YtdkemnjkhclbkaaGreatDoor
namespace Rows

/-- THE TIED CARD OF 'bedrocklaw11.BlockHeads'. -/
def blockHeadsCard : Claim7 := { stood := { row := blockHeadsRow, standIns := [], harness := (true, "6682bbf517bbff2faf62fbb03eff2cfe37dfa34db2a47ea12edd118b26c9641b"), looks := false }, kinds := [], alts := [], laidByText := true, laidKinds := [.data], laidTests := true, laidLooks := .later }
def BlockHeadsCardSaid : Prop := Claim7.holds Tryz.pinned (.plain (OpenSpec.ofChange blockHeadsSpec)) blockHeadsCard

/-- THE TIED CARD OF 'bedrocklaw11.BlockCodes'. -/
def blockCodesCard : Claim7 := { stood := { row := blockCodesRow, standIns := [], harness := (true, "6682bbf517bbff2faf62fbb03eff2cfe37dfa34db2a47ea12edd118b26c9641b"), looks := false }, kinds := [], alts := [], laidByText := true, laidKinds := [.data], laidTests := true, laidLooks := .later }
def BlockCodesCardSaid : Prop := Claim7.holds Tryz.pinned (.plain (OpenSpec.ofChange blockCodesSpec)) blockCodesCard

/-- THE TIED CARD OF 'bedrocklaw11.BlockMines'. -/
def blockMinesCard : Claim7 := { stood := { row := blockMinesRow, standIns := [], harness := (true, "6682bbf517bbff2faf62fbb03eff2cfe37dfa34db2a47ea12edd118b26c9641b"), looks := false }, kinds := [], alts := [], laidByText := true, laidKinds := [.data], laidTests := true, laidLooks := .later }
def BlockMinesCardSaid : Prop := Claim7.holds Tryz.pinned (.plain (OpenSpec.ofChange blockMinesSpec)) blockMinesCard

/-- THE SECOND FORM's CARD OF 'bedrocklaw11.BlockHeads'. -/
def blockHeadsUptoCard : Claim7 := { stood := { row := blockHeadsUptoRow, standIns := [], harness := (true, "6682bbf517bbff2faf62fbb03eff2cfe37dfa34db2a47ea12edd118b26c9641b"), looks := false }, kinds := [], alts := [], laidByText := true, laidKinds := [.data], laidTests := true, laidLooks := .later }
def BlockHeadsUptoCardSaid : Prop := Claim7.holds Tryz.pinned (.plain (OpenSpec.upto blockHeadsSpec)) blockHeadsUptoCard

/-- THE SECOND FORM's CARD OF 'bedrocklaw11.BlockCodes'. -/
def blockCodesUptoCard : Claim7 := { stood := { row := blockCodesUptoRow, standIns := [], harness := (true, "6682bbf517bbff2faf62fbb03eff2cfe37dfa34db2a47ea12edd118b26c9641b"), looks := false }, kinds := [], alts := [], laidByText := true, laidKinds := [.data], laidTests := true, laidLooks := .later }
def BlockCodesUptoCardSaid : Prop := Claim7.holds Tryz.pinned (.plain (OpenSpec.upto blockCodesSpec)) blockCodesUptoCard

/-- THE SECOND FORM's CARD OF 'bedrocklaw11.BlockMines'. -/
def blockMinesUptoCard : Claim7 := { stood := { row := blockMinesUptoRow, standIns := [], harness := (true, "6682bbf517bbff2faf62fbb03eff2cfe37dfa34db2a47ea12edd118b26c9641b"), looks := false }, kinds := [], alts := [], laidByText := true, laidKinds := [.data], laidTests := true, laidLooks := .later }
def BlockMinesUptoCardSaid : Prop := Claim7.holds Tryz.pinned (.plain (OpenSpec.upto blockMinesSpec)) blockMinesUptoCard
end Rows
end Go.Proofs.YtdkemnjkhclbkaaGreatDoor
