/-
  DERIVED. GIVEN WITH THE SEED: THE CARDS: each row of YtgncphoaknffnaaDoorRows.lean that lists a variable, with what it lists TIED to the program's text (the seventh form; the later family's looks); each row that meets fmt, with fmt's text TOLD by the authors' own Lean function (tested against real Go, not proved from fmt's source: count such statements apart). THE CARD IS WHAT COUNTS. Prove the row's statement (the work); the ties are given (YtgncphoaknffnaaDoorTie.lean); close each card by the builder's one call (the guide's Derived/Test/ToyasCard.lean, 'card_holds'). Laid BY PROGRAM, IN A SANDBOX (cutbox-door.mjs). By AI agents, Wed Nov 11 2026. No macro, syntax, notation, axiom, sorry.
-/
import Derived.Test.YtgncphoaknffnaaDoorRows
import GoSem.ClaimSeven
namespace Go.Proofs.YtgncphoaknffnaaDoor
namespace Rows

/-- THE TIED CARD OF 'bedrocklaw12.JournalBytes'. -/
def journalBytesCard : Claim7 := { stood := { row := journalBytesRow, standIns := [], harness := (true, "1810d98ea5c150f8b8ca61e78c4a929a24375f347bcc34be964bbfeb6c9ddcc8"), looks := false }, kinds := [], alts := [], laidByText := true, laidKinds := [.data], laidTests := true, laidLooks := .later }
def JournalBytesCardSaid : Prop := Claim7.holds Tryd.pinned (.plain (OpenSpec.ofChange journalBytesSpec)) journalBytesCard

/-- THE TIED CARD OF 'bedrocklaw12.JournalReads'. -/
def journalReadsCard : Claim7 := { stood := { row := journalReadsRow, standIns := [], harness := (true, "1810d98ea5c150f8b8ca61e78c4a929a24375f347bcc34be964bbfeb6c9ddcc8"), looks := false }, kinds := [], alts := [], laidByText := true, laidKinds := [.data], laidTests := true, laidLooks := .later }
def JournalReadsCardSaid : Prop := Claim7.holds Tryd.pinned (.plain (OpenSpec.ofChange journalReadsSpec)) journalReadsCard

/-- THE TIED CARD OF 'bedrocklaw12.JournalErrors'. -/
def journalErrorsCard : Claim7 := { stood := { row := journalErrorsRow, standIns := [], harness := (true, "1810d98ea5c150f8b8ca61e78c4a929a24375f347bcc34be964bbfeb6c9ddcc8"), looks := false }, kinds := [], alts := [], laidByText := true, laidKinds := [.data], laidTests := true, laidLooks := .later }
def JournalErrorsCardSaid : Prop := Claim7.holds Tryd.pinned (.plain (OpenSpec.ofChange journalErrorsSpec)) journalErrorsCard

/-- THE SECOND FORM's CARD OF 'bedrocklaw12.JournalBytes'. -/
def journalBytesUptoCard : Claim7 := { stood := { row := journalBytesUptoRow, standIns := [], harness := (true, "1810d98ea5c150f8b8ca61e78c4a929a24375f347bcc34be964bbfeb6c9ddcc8"), looks := false }, kinds := [], alts := [], laidByText := true, laidKinds := [.data], laidTests := true, laidLooks := .later }
def JournalBytesUptoCardSaid : Prop := Claim7.holds Tryd.pinned (.plain (OpenSpec.upto journalBytesSpec)) journalBytesUptoCard

/-- THE SECOND FORM's CARD OF 'bedrocklaw12.JournalReads'. -/
def journalReadsUptoCard : Claim7 := { stood := { row := journalReadsUptoRow, standIns := [], harness := (true, "1810d98ea5c150f8b8ca61e78c4a929a24375f347bcc34be964bbfeb6c9ddcc8"), looks := false }, kinds := [], alts := [], laidByText := true, laidKinds := [.data], laidTests := true, laidLooks := .later }
def JournalReadsUptoCardSaid : Prop := Claim7.holds Tryd.pinned (.plain (OpenSpec.upto journalReadsSpec)) journalReadsUptoCard

/-- THE SECOND FORM's CARD OF 'bedrocklaw12.JournalErrors'. -/
def journalErrorsUptoCard : Claim7 := { stood := { row := journalErrorsUptoRow, standIns := [], harness := (true, "1810d98ea5c150f8b8ca61e78c4a929a24375f347bcc34be964bbfeb6c9ddcc8"), looks := false }, kinds := [], alts := [], laidByText := true, laidKinds := [.data], laidTests := true, laidLooks := .later }
def JournalErrorsUptoCardSaid : Prop := Claim7.holds Tryd.pinned (.plain (OpenSpec.upto journalErrorsSpec)) journalErrorsUptoCard
end Rows
end Go.Proofs.YtgncphoaknffnaaDoor
