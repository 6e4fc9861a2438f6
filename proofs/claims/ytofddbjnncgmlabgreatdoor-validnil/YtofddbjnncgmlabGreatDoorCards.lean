/-
  DERIVED. GIVEN WITH THE SEED: THE CARDS: each row of YtofddbjnncgmlabGreatDoorRows.lean that lists a variable, with what it lists TIED to the program's text (the seventh form; the later family's looks); each row that meets fmt, with fmt's text TOLD by the authors' own Lean function (tested against real Go, not proved from fmt's source: count such statements apart). THE CARD IS WHAT COUNTS. Prove the row's statement (the work); the ties are given (YtofddbjnncgmlabGreatDoorTie.lean); close each card by the builder's one call (the guide's Derived/Test/ToyasCard.lean, 'card_holds'). Laid BY PROGRAM, IN A SANDBOX (cutbox-door.mjs). By AI agents, Wed Nov 11 2026. No macro, syntax, notation, axiom, sorry.
-/
import Derived.Test.YtofddbjnncgmlabGreatDoorRows
import GoSem.ClaimSeven
namespace Go.Proofs.YtofddbjnncgmlabGreatDoor
namespace Rows

/-- THE TIED CARD OF 'bedrocklaw16.ValidCopies'. -/
def validCopiesCard : Claim7 := { stood := { row := validCopiesRow, standIns := [], harness := (true, "2a99306794e71fb3af8e690585eef82fa4cbb80aa9d0f2f2c266b5d49efebbcf"), looks := true }, kinds := [], alts := [], laidByText := true, laidKinds := [.data], laidTests := true, laidLooks := .later }
def ValidCopiesCardSaid : Prop := Claim7.holds Tryz.pinned (.plain (OpenSpec.ofChange validCopiesSpec)) validCopiesCard

/-- THE TIED CARD OF 'bedrocklaw16.ValidNil'. -/
def validNilCard : Claim7 := { stood := { row := validNilRow, standIns := [], harness := (true, "2a99306794e71fb3af8e690585eef82fa4cbb80aa9d0f2f2c266b5d49efebbcf"), looks := true }, kinds := [], alts := [], laidByText := true, laidKinds := [.data], laidTests := true, laidLooks := .later }
def ValidNilCardSaid : Prop := Claim7.holds Tryz.pinned (.plain (OpenSpec.ofChange validNilSpec)) validNilCard

/-- THE SECOND FORM's CARD OF 'bedrocklaw16.ValidCopies'. -/
def validCopiesUptoCard : Claim7 := { stood := { row := validCopiesUptoRow, standIns := [], harness := (true, "2a99306794e71fb3af8e690585eef82fa4cbb80aa9d0f2f2c266b5d49efebbcf"), looks := true }, kinds := [], alts := [], laidByText := true, laidKinds := [.data], laidTests := true, laidLooks := .later }
def ValidCopiesUptoCardSaid : Prop := Claim7.holds Tryz.pinned (.plain (OpenSpec.upto validCopiesSpec)) validCopiesUptoCard

/-- THE SECOND FORM's CARD OF 'bedrocklaw16.ValidNil'. -/
def validNilUptoCard : Claim7 := { stood := { row := validNilUptoRow, standIns := [], harness := (true, "2a99306794e71fb3af8e690585eef82fa4cbb80aa9d0f2f2c266b5d49efebbcf"), looks := true }, kinds := [], alts := [], laidByText := true, laidKinds := [.data], laidTests := true, laidLooks := .later }
def ValidNilUptoCardSaid : Prop := Claim7.holds Tryz.pinned (.plain (OpenSpec.upto validNilSpec)) validNilUptoCard
end Rows
end Go.Proofs.YtofddbjnncgmlabGreatDoor
