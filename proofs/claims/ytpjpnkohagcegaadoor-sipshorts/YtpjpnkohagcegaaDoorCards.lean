/-
  DERIVED. GIVEN WITH THE SEED: THE CARDS: each row of YtpjpnkohagcegaaDoorRows.lean that lists a variable, with what it lists TIED to the program's text (the seventh form; the later family's looks); each row that meets fmt, with fmt's text TOLD by the authors' own Lean function (tested against real Go, not proved from fmt's source: count such statements apart). THE CARD IS WHAT COUNTS. Prove the row's statement (the work); the ties are given (YtpjpnkohagcegaaDoorTie.lean); close each card by the builder's one call (the guide's Derived/Test/ToyasCard.lean, 'card_holds'). Laid BY PROGRAM, IN A SANDBOX (cutbox-door.mjs). By AI agents, Wed Nov 11 2026. No macro, syntax, notation, axiom, sorry.
-/
import Derived.Test.YtpjpnkohagcegaaDoorRows
import GoSem.ClaimSeven
namespace Go.Proofs.YtpjpnkohagcegaaDoor
namespace Rows

/-- THE TIED CARD OF 'bedrocklaw03.SipShorts'. -/
def sipShortsCard : Claim7 := { stood := { row := sipShortsRow, standIns := [], harness := (true, "8657c3d212a9076f55042f996aa4b3cf5ef014f625a129101beeacb4ea5d3d29"), looks := false }, kinds := [], alts := [], laidByText := true, laidKinds := [.data], laidTests := true, laidLooks := .later }
def SipShortsCardSaid : Prop := Claim7.holds Tryd.pinned (.plain (OpenSpec.ofChange sipShortsSpec)) sipShortsCard

/-- THE SECOND FORM's CARD OF 'bedrocklaw03.SipShorts'. -/
def sipShortsUptoCard : Claim7 := { stood := { row := sipShortsUptoRow, standIns := [], harness := (true, "8657c3d212a9076f55042f996aa4b3cf5ef014f625a129101beeacb4ea5d3d29"), looks := false }, kinds := [], alts := [], laidByText := true, laidKinds := [.data], laidTests := true, laidLooks := .later }
def SipShortsUptoCardSaid : Prop := Claim7.holds Tryd.pinned (.plain (OpenSpec.upto sipShortsSpec)) sipShortsUptoCard
end Rows
end Go.Proofs.YtpjpnkohagcegaaDoor
