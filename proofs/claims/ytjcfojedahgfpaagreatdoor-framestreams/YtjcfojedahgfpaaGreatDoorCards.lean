/-
  DERIVED. GIVEN WITH THE SEED: THE CARDS: each row of YtjcfojedahgfpaaGreatDoorRows.lean that lists a variable, with what it lists TIED to the program's text (the seventh form; the later family's looks); each row that meets fmt, with fmt's text TOLD by the authors' own Lean function (tested against real Go, not proved from fmt's source: count such statements apart). THE CARD IS WHAT COUNTS. Prove the row's statement (the work); the ties are given (YtjcfojedahgfpaaGreatDoorTie.lean); close each card by the builder's one call (the guide's Derived/Test/ToyasCard.lean, 'card_holds'). Laid BY PROGRAM, IN A SANDBOX (cutbox-door.mjs). By AI agents, Wed Nov 11 2026. No macro, syntax, notation, axiom, sorry.
-/
import Derived.Test.YtjcfojedahgfpaaGreatDoorRows
import GoSem.ClaimSeven
namespace Go.Proofs.YtjcfojedahgfpaaGreatDoor
namespace Rows

/-- THE TIED CARD OF 'bedrocklaw08.FrameStreams'. -/
def frameStreamsCard : Claim7 := { stood := { row := frameStreamsRow, standIns := [], harness := (true, "5d9e91f9549e76478a99926bcfd5a06940a8a607aad9bd0b380f84e2a03a135d"), looks := false }, kinds := [], alts := [], laidByText := true, laidKinds := [.data, .data, .pinned], laidTests := true, laidLooks := .later }
def FrameStreamsCardSaid : Prop := Claim7.holds Tryz.pinned (.plain (OpenSpec.ofChange frameStreamsSpec)) frameStreamsCard

/-- THE SECOND FORM's CARD OF 'bedrocklaw08.FrameStreams'. -/
def frameStreamsUptoCard : Claim7 := { stood := { row := frameStreamsUptoRow, standIns := [], harness := (true, "5d9e91f9549e76478a99926bcfd5a06940a8a607aad9bd0b380f84e2a03a135d"), looks := false }, kinds := [], alts := [], laidByText := true, laidKinds := [.data, .data, .pinned], laidTests := true, laidLooks := .later }
def FrameStreamsUptoCardSaid : Prop := Claim7.holds Tryz.pinned (.plain (OpenSpec.upto frameStreamsSpec)) frameStreamsUptoCard
end Rows
end Go.Proofs.YtjcfojedahgfpaaGreatDoor
