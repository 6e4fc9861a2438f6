/-
  DERIVED. GIVEN WITH THE SEED: THE CARDS: each row of YtfldpejdpinppaaDoorRows.lean that lists a variable, with what it lists TIED to the program's text (the seventh form; the later family's looks); each row that meets fmt, with fmt's text TOLD by the authors' own Lean function (tested against real Go, not proved from fmt's source: count such statements apart). THE CARD IS WHAT COUNTS. Prove the row's statement (the work); the ties are given (YtfldpejdpinppaaDoorTie.lean); close each card by the builder's one call (the guide's Derived/Test/ToyasCard.lean, 'card_holds'). Laid BY PROGRAM, IN A SANDBOX (cutbox-door.mjs). By AI agents, Wed Nov 11 2026. No macro, syntax, notation, axiom, sorry.
-/
import Derived.Test.YtfldpejdpinppaaDoorRows
import GoSem.ClaimSeven
namespace Go.Proofs.YtfldpejdpinppaaDoor
namespace Rows

/-- THE TIED CARD OF 'bedrocklaw10.TxTells'. -/
def txTellsCard : Claim7 := { stood := { row := txTellsRow, standIns := [], harness := (true, "0bf89e57d4e284a8b1290da808195a17b90ac987aed612e6db70b06aaec4db56"), looks := false }, kinds := [], alts := [], laidByText := true, laidKinds := [.data], laidTests := true, laidLooks := .later }
def TxTellsCardSaid : Prop := Claim7.holds Tryd.pinned (.plain (OpenSpec.ofChange txTellsSpec)) txTellsCard

/-- THE TIED CARD OF 'bedrocklaw10.TxOpens'. -/
def txOpensCard : Claim7 := { stood := { row := txOpensRow, standIns := [], harness := (true, "0bf89e57d4e284a8b1290da808195a17b90ac987aed612e6db70b06aaec4db56"), looks := false }, kinds := [], alts := [], laidByText := true, laidKinds := [.data], laidTests := true, laidLooks := .later }
def TxOpensCardSaid : Prop := Claim7.holds Tryd.pinned (.plain (OpenSpec.ofChange txOpensSpec)) txOpensCard

/-- THE SECOND FORM's CARD OF 'bedrocklaw10.TxTells'. -/
def txTellsUptoCard : Claim7 := { stood := { row := txTellsUptoRow, standIns := [], harness := (true, "0bf89e57d4e284a8b1290da808195a17b90ac987aed612e6db70b06aaec4db56"), looks := false }, kinds := [], alts := [], laidByText := true, laidKinds := [.data], laidTests := true, laidLooks := .later }
def TxTellsUptoCardSaid : Prop := Claim7.holds Tryd.pinned (.plain (OpenSpec.upto txTellsSpec)) txTellsUptoCard

/-- THE SECOND FORM's CARD OF 'bedrocklaw10.TxOpens'. -/
def txOpensUptoCard : Claim7 := { stood := { row := txOpensUptoRow, standIns := [], harness := (true, "0bf89e57d4e284a8b1290da808195a17b90ac987aed612e6db70b06aaec4db56"), looks := false }, kinds := [], alts := [], laidByText := true, laidKinds := [.data], laidTests := true, laidLooks := .later }
def TxOpensUptoCardSaid : Prop := Claim7.holds Tryd.pinned (.plain (OpenSpec.upto txOpensSpec)) txOpensUptoCard
end Rows
end Go.Proofs.YtfldpejdpinppaaDoor
