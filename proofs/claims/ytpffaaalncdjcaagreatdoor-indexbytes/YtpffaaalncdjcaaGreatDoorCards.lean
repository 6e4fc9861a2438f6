/-
  DERIVED. GIVEN WITH THE SEED: THE CARDS: each row of YtpffaaalncdjcaaGreatDoorRows.lean that lists a variable, with what it lists TIED to the program's text (the seventh form; the later family's looks); each row that meets fmt, with fmt's text TOLD by the authors' own Lean function (tested against real Go, not proved from fmt's source: count such statements apart). THE CARD IS WHAT COUNTS. Prove the row's statement (the work); the ties are given (YtpffaaalncdjcaaGreatDoorTie.lean); close each card by the builder's one call (the guide's Derived/Test/ToyasCard.lean, 'card_holds'). Laid BY PROGRAM, IN A SANDBOX (cutbox-door.mjs). By AI agents, Wed Nov 11 2026. No macro, syntax, notation, axiom, sorry.
-/
import Derived.Test.YtpffaaalncdjcaaGreatDoorRows
import GoSem.ClaimSeven
namespace Go.Proofs.YtpffaaalncdjcaaGreatDoor
namespace Rows

/-- THE TIED CARD OF 'bedrocklaw13.IndexBytes'. -/
def indexBytesCard : Claim7 := { stood := { row := indexBytesRow, standIns := [], harness := (true, "ae4606ac3d1792abc1d2651f77a1dd04911a549c399f70e66919f5cd0ebb0841"), looks := false }, kinds := [], alts := [], laidByText := true, laidKinds := [.data], laidTests := true, laidLooks := .later }
def IndexBytesCardSaid : Prop := Claim7.holds Tryz.pinned (.plain (OpenSpec.ofChange indexBytesSpec)) indexBytesCard

/-- THE TIED CARD OF 'bedrocklaw13.IndexPlays'. -/
def indexPlaysCard : Claim7 := { stood := { row := indexPlaysRow, standIns := [], harness := (true, "ae4606ac3d1792abc1d2651f77a1dd04911a549c399f70e66919f5cd0ebb0841"), looks := false }, kinds := [], alts := [], laidByText := true, laidKinds := [.data], laidTests := true, laidLooks := .later }
def IndexPlaysCardSaid : Prop := Claim7.holds Tryz.pinned (.plain (OpenSpec.ofChange indexPlaysSpec)) indexPlaysCard

/-- THE TIED CARD OF 'bedrocklaw13.IndexOpens'. -/
def indexOpensCard : Claim7 := { stood := { row := indexOpensRow, standIns := [], harness := (true, "ae4606ac3d1792abc1d2651f77a1dd04911a549c399f70e66919f5cd0ebb0841"), looks := false }, kinds := [], alts := [], laidByText := true, laidKinds := [.data], laidTests := true, laidLooks := .later }
def IndexOpensCardSaid : Prop := Claim7.holds Tryz.pinned (.plain (OpenSpec.ofChange indexOpensSpec)) indexOpensCard

/-- THE TIED CARD OF 'bedrocklaw13.IndexNil'. -/
def indexNilCard : Claim7 := { stood := { row := indexNilRow, standIns := [], harness := (true, "ae4606ac3d1792abc1d2651f77a1dd04911a549c399f70e66919f5cd0ebb0841"), looks := false }, kinds := [], alts := [], laidByText := true, laidKinds := [.data], laidTests := true, laidLooks := .later }
def IndexNilCardSaid : Prop := Claim7.holds Tryz.pinned (.plain (OpenSpec.ofChange indexNilSpec)) indexNilCard

/-- THE SECOND FORM's CARD OF 'bedrocklaw13.IndexBytes'. -/
def indexBytesUptoCard : Claim7 := { stood := { row := indexBytesUptoRow, standIns := [], harness := (true, "ae4606ac3d1792abc1d2651f77a1dd04911a549c399f70e66919f5cd0ebb0841"), looks := false }, kinds := [], alts := [], laidByText := true, laidKinds := [.data], laidTests := true, laidLooks := .later }
def IndexBytesUptoCardSaid : Prop := Claim7.holds Tryz.pinned (.plain (OpenSpec.upto indexBytesSpec)) indexBytesUptoCard

/-- THE SECOND FORM's CARD OF 'bedrocklaw13.IndexPlays'. -/
def indexPlaysUptoCard : Claim7 := { stood := { row := indexPlaysUptoRow, standIns := [], harness := (true, "ae4606ac3d1792abc1d2651f77a1dd04911a549c399f70e66919f5cd0ebb0841"), looks := false }, kinds := [], alts := [], laidByText := true, laidKinds := [.data], laidTests := true, laidLooks := .later }
def IndexPlaysUptoCardSaid : Prop := Claim7.holds Tryz.pinned (.plain (OpenSpec.upto indexPlaysSpec)) indexPlaysUptoCard

/-- THE SECOND FORM's CARD OF 'bedrocklaw13.IndexOpens'. -/
def indexOpensUptoCard : Claim7 := { stood := { row := indexOpensUptoRow, standIns := [], harness := (true, "ae4606ac3d1792abc1d2651f77a1dd04911a549c399f70e66919f5cd0ebb0841"), looks := false }, kinds := [], alts := [], laidByText := true, laidKinds := [.data], laidTests := true, laidLooks := .later }
def IndexOpensUptoCardSaid : Prop := Claim7.holds Tryz.pinned (.plain (OpenSpec.upto indexOpensSpec)) indexOpensUptoCard

/-- THE SECOND FORM's CARD OF 'bedrocklaw13.IndexNil'. -/
def indexNilUptoCard : Claim7 := { stood := { row := indexNilUptoRow, standIns := [], harness := (true, "ae4606ac3d1792abc1d2651f77a1dd04911a549c399f70e66919f5cd0ebb0841"), looks := false }, kinds := [], alts := [], laidByText := true, laidKinds := [.data], laidTests := true, laidLooks := .later }
def IndexNilUptoCardSaid : Prop := Claim7.holds Tryz.pinned (.plain (OpenSpec.upto indexNilSpec)) indexNilUptoCard
end Rows
end Go.Proofs.YtpffaaalncdjcaaGreatDoor
