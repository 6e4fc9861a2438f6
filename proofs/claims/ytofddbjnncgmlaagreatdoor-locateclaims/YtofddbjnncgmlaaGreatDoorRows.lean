/-
  NARROWER THAN 'FOR EVERY INPUT', by the rows' own cells (each row's printed sentence says how): TreeGrows: laid · TreeOrders: laid · LocateClaims: laid · ValidPlays: laid · ValidBack: laid · ValidBytes: laid.
  DERIVED. THE GIVEN ROWS OF THIS SEAT. 6 by the template 'for every input the law returns true; each argument reads behind the call as it read before'; 0 by the template 'total and deterministic' (their statements: YtofddbjnncgmlaaGreatDoorTotals.lean).
  GIVEN WITH THE SEED: the statements are not yours to turn. If you find one false, say at which input.
  Laid BY PROGRAM, IN A SANDBOX (cutbox-rows.mjs): the forced cells as the released guide's own fill.sh prints them over the translation 192dc77da70ff4b3… (all of the seat's roots in one cut). By AI agents, Wed Nov 11 2026. No macro, syntax, notation, axiom, sorry.
-/
import Derived.Test.YtofddbjnncgmlaaGreatDoorChecked
import GoSem.Claim
import GoSem.ClaimJoined
import GoSem.ClaimMapViews
import Derived.JoinedTies
import Derived.KernelRfl
namespace Go.Proofs.YtofddbjnncgmlaaGreatDoor
/- THE CELL 'sum', in the pinned program and in every row, IS THE sha256 OF THE DUMP (.gsa) THAT YtofddbjnncgmlaaGreatDoorProg.lean LOADS. Nothing in Lean hashes anything: it is a label: what it is worth is what the hold of that sum in a sandbox is worth. -/
noncomputable def Tryz.pinned : Pinned := { name := "ytofddbjnncgmlaagreatdoor", sum := "192dc77da70ff4b3315ef54f027e0e9008ff29a664919e511422a8142ad19fd3", checked := Tryz.checked }
namespace Rows
def none {H : Type} : Left H := { results := [], args := [] }

/- WHAT THE LISTED PACKAGE-LEVEL VARIABLES READ AS WHEN THE CALL BEGINS. Each datum BY PROGRAM (the guide's laid-datum.mjs) off the statement by which the dump's own 'gosem.cut.vars' lays the variable. In a bare row this is a premise. The card (YtofddbjnncgmlaaGreatDoorCards.lean) ties it to the program's text. -/
def laid_bedrock_sha_rounds {H : Type} : DataW H := .agg [.lit (.int .u32 1116352408), .lit (.int .u32 1899447441), .lit (.int .u32 3049323471), .lit (.int .u32 3921009573), .lit (.int .u32 961987163), .lit (.int .u32 1508970993), .lit (.int .u32 2453635748), .lit (.int .u32 2870763221), .lit (.int .u32 3624381080), .lit (.int .u32 310598401), .lit (.int .u32 607225278), .lit (.int .u32 1426881987), .lit (.int .u32 1925078388), .lit (.int .u32 2162078206), .lit (.int .u32 2614888103), .lit (.int .u32 3248222580), .lit (.int .u32 3835390401), .lit (.int .u32 4022224774), .lit (.int .u32 264347078), .lit (.int .u32 604807628), .lit (.int .u32 770255983), .lit (.int .u32 1249150122), .lit (.int .u32 1555081692), .lit (.int .u32 1996064986), .lit (.int .u32 2554220882), .lit (.int .u32 2821834349), .lit (.int .u32 2952996808), .lit (.int .u32 3210313671), .lit (.int .u32 3336571891), .lit (.int .u32 3584528711), .lit (.int .u32 113926993), .lit (.int .u32 338241895), .lit (.int .u32 666307205), .lit (.int .u32 773529912), .lit (.int .u32 1294757372), .lit (.int .u32 1396182291), .lit (.int .u32 1695183700), .lit (.int .u32 1986661051), .lit (.int .u32 2177026350), .lit (.int .u32 2456956037), .lit (.int .u32 2730485921), .lit (.int .u32 2820302411), .lit (.int .u32 3259730800), .lit (.int .u32 3345764771), .lit (.int .u32 3516065817), .lit (.int .u32 3600352804), .lit (.int .u32 4094571909), .lit (.int .u32 275423344), .lit (.int .u32 430227734), .lit (.int .u32 506948616), .lit (.int .u32 659060556), .lit (.int .u32 883997877), .lit (.int .u32 958139571), .lit (.int .u32 1322822218), .lit (.int .u32 1537002063), .lit (.int .u32 1747873779), .lit (.int .u32 1955562222), .lit (.int .u32 2024104815), .lit (.int .u32 2227730452), .lit (.int .u32 2361852424), .lit (.int .u32 2428436474), .lit (.int .u32 2756734187), .lit (.int .u32 3204031479), .lit (.int .u32 3329325298)]

/-- 'bedrocklaw14.TreeGrows': WHATEVER THE INPUT: true; the input reads as it did. -/
def treeGrowsSpec : ChangeSpec := { name := "treeGrows", fn := fun _ => fun
  | [d] => { results := [.lit (.bool true)], args := [d] }
  | _ => none }
def treeGrowsRow : OpenClaim := { program := "ytofddbjnncgmlaagreatdoor", sum := "192dc77da70ff4b3315ef54f027e0e9008ff29a664919e511422a8142ad19fd3", func := "bedrock/bedrocklaw14.TreeGrows", spec := "treeGrows", inPlace := ["math/bits.Sub64", "math/bits.Add64", "maps.clone"], unfollowed := true, recurses := true, named := ["bedrock/sha.rounds", "math/bits.divideError", "math/bits.overflowError"], plainKeys := false, apart := false, laid := [("bedrock/sha.rounds", laid_bedrock_sha_rounds)] }
def TreeGrowsSaid : Prop := treeGrowsRow.holds Tryz.pinned (OpenSpec.ofChange treeGrowsSpec)

/-- ITS FALSE NEIGHBOUR: 'it returns false'. Refute it at one input. -/
def treeGrowsWrong : ChangeSpec := { name := "treeGrows", fn := fun _ => fun
  | [d] => { results := [.lit (.bool false)], args := [d] }
  | _ => none }
def TreeGrowsWrongFalsely : Prop := treeGrowsRow.holds Tryz.pinned (OpenSpec.ofChange treeGrowsWrong)

/-- 'bedrocklaw14.TreeOrders': WHATEVER THE INPUT: true; the input reads as it did. -/
def treeOrdersSpec : ChangeSpec := { name := "treeOrders", fn := fun _ => fun
  | [d1, d2] => { results := [.lit (.bool true)], args := [d1, d2] }
  | _ => none }
def treeOrdersRow : OpenClaim := { program := "ytofddbjnncgmlaagreatdoor", sum := "192dc77da70ff4b3315ef54f027e0e9008ff29a664919e511422a8142ad19fd3", func := "bedrock/bedrocklaw14.TreeOrders", spec := "treeOrders", inPlace := ["math/bits.Sub64", "math/bits.Add64", "maps.clone"], unfollowed := true, recurses := true, named := ["bedrock/sha.rounds", "math/bits.divideError", "math/bits.overflowError"], plainKeys := false, apart := false, laid := [("bedrock/sha.rounds", laid_bedrock_sha_rounds)] }
def TreeOrdersSaid : Prop := treeOrdersRow.holds Tryz.pinned (OpenSpec.ofChange treeOrdersSpec)

/-- ITS FALSE NEIGHBOUR: 'it returns false'. Refute it at one input. -/
def treeOrdersWrong : ChangeSpec := { name := "treeOrders", fn := fun _ => fun
  | [d1, d2] => { results := [.lit (.bool false)], args := [d1, d2] }
  | _ => none }
def TreeOrdersWrongFalsely : Prop := treeOrdersRow.holds Tryz.pinned (OpenSpec.ofChange treeOrdersWrong)

/-- 'bedrocklaw15.LocateClaims': WHATEVER THE INPUT: true; the input reads as it did. -/
def locateClaimsSpec : ChangeSpec := { name := "locateClaims", fn := fun _ => fun
  | [d1, d2] => { results := [.lit (.bool true)], args := [d1, d2] }
  | _ => none }
def locateClaimsRow : OpenClaim := { program := "ytofddbjnncgmlaagreatdoor", sum := "192dc77da70ff4b3315ef54f027e0e9008ff29a664919e511422a8142ad19fd3", func := "bedrock/bedrocklaw15.LocateClaims", spec := "locateClaims", inPlace := ["math/bits.Sub64", "math/bits.Add64"], recurses := true, named := ["bedrock/sha.rounds", "math/bits.divideError", "math/bits.overflowError"], plainKeys := false, apart := false, laid := [("bedrock/sha.rounds", laid_bedrock_sha_rounds)] }
def LocateClaimsSaid : Prop := locateClaimsRow.holds Tryz.pinned (OpenSpec.ofChange locateClaimsSpec)

/-- ITS FALSE NEIGHBOUR: 'it returns false'. Refute it at one input. -/
def locateClaimsWrong : ChangeSpec := { name := "locateClaims", fn := fun _ => fun
  | [d1, d2] => { results := [.lit (.bool false)], args := [d1, d2] }
  | _ => none }
def LocateClaimsWrongFalsely : Prop := locateClaimsRow.holds Tryz.pinned (OpenSpec.ofChange locateClaimsWrong)

/-- 'bedrocklaw16.ValidPlays': WHATEVER THE INPUT: true; the input reads as it did. -/
def validPlaysSpec : ChangeSpec := { name := "validPlays", fn := fun _ => fun
  | [d] => { results := [.lit (.bool true)], args := [d] }
  | _ => none }
def validPlaysRow : OpenClaim := { program := "ytofddbjnncgmlaagreatdoor", sum := "192dc77da70ff4b3315ef54f027e0e9008ff29a664919e511422a8142ad19fd3", func := "bedrock/bedrocklaw16.ValidPlays", spec := "validPlays", inPlace := ["math/bits.Sub64", "math/bits.Add64", "internal/bytealg.Compare"], unfollowed := true, recurses := true, named := ["bedrock/sha.rounds"], plainKeys := false, apart := false, laid := [("bedrock/sha.rounds", laid_bedrock_sha_rounds)] }
def ValidPlaysSaid : Prop := validPlaysRow.holds Tryz.pinned (OpenSpec.ofChange validPlaysSpec)

/-- ITS FALSE NEIGHBOUR: 'it returns false'. Refute it at one input. -/
def validPlaysWrong : ChangeSpec := { name := "validPlays", fn := fun _ => fun
  | [d] => { results := [.lit (.bool false)], args := [d] }
  | _ => none }
def ValidPlaysWrongFalsely : Prop := validPlaysRow.holds Tryz.pinned (OpenSpec.ofChange validPlaysWrong)

/-- 'bedrocklaw16.ValidBack': WHATEVER THE INPUT: true; the input reads as it did. -/
def validBackSpec : ChangeSpec := { name := "validBack", fn := fun _ => fun
  | [d] => { results := [.lit (.bool true)], args := [d] }
  | _ => none }
def validBackRow : OpenClaim := { program := "ytofddbjnncgmlaagreatdoor", sum := "192dc77da70ff4b3315ef54f027e0e9008ff29a664919e511422a8142ad19fd3", func := "bedrock/bedrocklaw16.ValidBack", spec := "validBack", inPlace := ["math/bits.Sub64", "math/bits.Add64", "internal/bytealg.Compare"], unfollowed := true, recurses := true, named := ["bedrock/sha.rounds"], plainKeys := false, apart := false, laid := [("bedrock/sha.rounds", laid_bedrock_sha_rounds)] }
def ValidBackSaid : Prop := validBackRow.holds Tryz.pinned (OpenSpec.ofChange validBackSpec)

/-- ITS FALSE NEIGHBOUR: 'it returns false'. Refute it at one input. -/
def validBackWrong : ChangeSpec := { name := "validBack", fn := fun _ => fun
  | [d] => { results := [.lit (.bool false)], args := [d] }
  | _ => none }
def ValidBackWrongFalsely : Prop := validBackRow.holds Tryz.pinned (OpenSpec.ofChange validBackWrong)

/-- 'bedrocklaw16.ValidBytes': WHATEVER THE INPUT: true; the input reads as it did. -/
def validBytesSpec : ChangeSpec := { name := "validBytes", fn := fun _ => fun
  | [d1, d2, d3] => { results := [.lit (.bool true)], args := [d1, d2, d3] }
  | _ => none }
def validBytesRow : OpenClaim := { program := "ytofddbjnncgmlaagreatdoor", sum := "192dc77da70ff4b3315ef54f027e0e9008ff29a664919e511422a8142ad19fd3", func := "bedrock/bedrocklaw16.ValidBytes", spec := "validBytes", inPlace := ["internal/bytealg.Compare", "math/bits.Sub64", "math/bits.Add64"], unfollowed := true, recurses := true, named := ["bedrock/sha.rounds"], plainKeys := false, apart := false, laid := [("bedrock/sha.rounds", laid_bedrock_sha_rounds)] }
def ValidBytesSaid : Prop := validBytesRow.holds Tryz.pinned (OpenSpec.ofChange validBytesSpec)

/-- ITS FALSE NEIGHBOUR: 'it returns false'. Refute it at one input. -/
def validBytesWrong : ChangeSpec := { name := "validBytes", fn := fun _ => fun
  | [d1, d2, d3] => { results := [.lit (.bool false)], args := [d1, d2, d3] }
  | _ => none }
def ValidBytesWrongFalsely : Prop := validBytesRow.holds Tryz.pinned (OpenSpec.ofChange validBytesWrong)

/- THE SECOND FORM. 'bulk': how many values and letters a reading holds, each counted each time it is reached (what is shared counts as often as it is met; a slice's spare places count too). A statement '..UptoSaid' is the law's where the arguments, and the package variables that the reading takes, are together of bulk at most 1048576: NARROWER than '..Said'. Prove '..Said' where nothing that the law and all that it calls make is longer than what came in: it says more and counts as full. Else prove '..UptoSaid'. A law counts once. -/
mutual
def uptoBulk {H : Type} : DataW H → Nat
  | .lit (.string bytes) => bytes.length + 1
  | .lit _ => 1
  | .nil => 1
  | .ptr d => uptoBulk d + 1
  | .slice elems spare => uptoBulkAll elems + uptoBulkAll spare + 1
  | .agg parts => uptoBulkAll parts + 1
  | .iface _ d => uptoBulk d + 1
  | .map entries => uptoBulkEntries entries + 1
  | .held _ => 1
def uptoBulkAll {H : Type} : List (DataW H) → Nat
  | [] => 0
  | d :: r => uptoBulk d + uptoBulkAll r
def uptoBulkEntries {H : Type} : List (Lit × DataW H) → Nat
  | [] => 0
  | x :: r => uptoBulkEntry x + uptoBulkEntries r
def uptoBulkEntry {H : Type} : Lit × DataW H → Nat
  | (.string bytes, d) => bytes.length + uptoBulk d + 1
  | (_, d) => uptoBulk d + 1
 end
def uptoSmall : (H : Type) → List (DataW H) → Bool := fun _ ds => decide (uptoBulkAll ds ≤ 1048576)
def OpenSpec.upto (s : _root_.Go.ChangeSpec) : _root_.Go.OpenSpec := { _root_.Go.OpenSpec.ofChange s with cond := some uptoSmall }

/-- 'bedrocklaw14.TreeGrows', WHERE WHAT IT READS IS OF BULK AT MOST 1048576: true; the input reads as it did. -/
def treeGrowsUptoRow : OpenClaim := { program := "ytofddbjnncgmlaagreatdoor", sum := "192dc77da70ff4b3315ef54f027e0e9008ff29a664919e511422a8142ad19fd3", func := "bedrock/bedrocklaw14.TreeGrows", spec := "treeGrows", inPlace := ["math/bits.Sub64", "math/bits.Add64", "maps.clone"], unfollowed := true, recurses := true, named := ["bedrock/sha.rounds", "math/bits.divideError", "math/bits.overflowError"], plainKeys := false, apart := false, laid := [("bedrock/sha.rounds", laid_bedrock_sha_rounds)], narrowed := true }
def TreeGrowsUptoSaid : Prop := treeGrowsUptoRow.holds Tryz.pinned (OpenSpec.upto treeGrowsSpec)

/-- 'bedrocklaw14.TreeOrders', WHERE WHAT IT READS IS OF BULK AT MOST 1048576: true; the input reads as it did. -/
def treeOrdersUptoRow : OpenClaim := { program := "ytofddbjnncgmlaagreatdoor", sum := "192dc77da70ff4b3315ef54f027e0e9008ff29a664919e511422a8142ad19fd3", func := "bedrock/bedrocklaw14.TreeOrders", spec := "treeOrders", inPlace := ["math/bits.Sub64", "math/bits.Add64", "maps.clone"], unfollowed := true, recurses := true, named := ["bedrock/sha.rounds", "math/bits.divideError", "math/bits.overflowError"], plainKeys := false, apart := false, laid := [("bedrock/sha.rounds", laid_bedrock_sha_rounds)], narrowed := true }
def TreeOrdersUptoSaid : Prop := treeOrdersUptoRow.holds Tryz.pinned (OpenSpec.upto treeOrdersSpec)

/-- 'bedrocklaw15.LocateClaims', WHERE WHAT IT READS IS OF BULK AT MOST 1048576: true; the input reads as it did. -/
def locateClaimsUptoRow : OpenClaim := { program := "ytofddbjnncgmlaagreatdoor", sum := "192dc77da70ff4b3315ef54f027e0e9008ff29a664919e511422a8142ad19fd3", func := "bedrock/bedrocklaw15.LocateClaims", spec := "locateClaims", inPlace := ["math/bits.Sub64", "math/bits.Add64"], recurses := true, named := ["bedrock/sha.rounds", "math/bits.divideError", "math/bits.overflowError"], plainKeys := false, apart := false, laid := [("bedrock/sha.rounds", laid_bedrock_sha_rounds)], narrowed := true }
def LocateClaimsUptoSaid : Prop := locateClaimsUptoRow.holds Tryz.pinned (OpenSpec.upto locateClaimsSpec)

/-- 'bedrocklaw16.ValidPlays', WHERE WHAT IT READS IS OF BULK AT MOST 1048576: true; the input reads as it did. -/
def validPlaysUptoRow : OpenClaim := { program := "ytofddbjnncgmlaagreatdoor", sum := "192dc77da70ff4b3315ef54f027e0e9008ff29a664919e511422a8142ad19fd3", func := "bedrock/bedrocklaw16.ValidPlays", spec := "validPlays", inPlace := ["math/bits.Sub64", "math/bits.Add64", "internal/bytealg.Compare"], unfollowed := true, recurses := true, named := ["bedrock/sha.rounds"], plainKeys := false, apart := false, laid := [("bedrock/sha.rounds", laid_bedrock_sha_rounds)], narrowed := true }
def ValidPlaysUptoSaid : Prop := validPlaysUptoRow.holds Tryz.pinned (OpenSpec.upto validPlaysSpec)

/-- 'bedrocklaw16.ValidBack', WHERE WHAT IT READS IS OF BULK AT MOST 1048576: true; the input reads as it did. -/
def validBackUptoRow : OpenClaim := { program := "ytofddbjnncgmlaagreatdoor", sum := "192dc77da70ff4b3315ef54f027e0e9008ff29a664919e511422a8142ad19fd3", func := "bedrock/bedrocklaw16.ValidBack", spec := "validBack", inPlace := ["math/bits.Sub64", "math/bits.Add64", "internal/bytealg.Compare"], unfollowed := true, recurses := true, named := ["bedrock/sha.rounds"], plainKeys := false, apart := false, laid := [("bedrock/sha.rounds", laid_bedrock_sha_rounds)], narrowed := true }
def ValidBackUptoSaid : Prop := validBackUptoRow.holds Tryz.pinned (OpenSpec.upto validBackSpec)

/-- 'bedrocklaw16.ValidBytes', WHERE WHAT IT READS IS OF BULK AT MOST 1048576: true; the input reads as it did. -/
def validBytesUptoRow : OpenClaim := { program := "ytofddbjnncgmlaagreatdoor", sum := "192dc77da70ff4b3315ef54f027e0e9008ff29a664919e511422a8142ad19fd3", func := "bedrock/bedrocklaw16.ValidBytes", spec := "validBytes", inPlace := ["internal/bytealg.Compare", "math/bits.Sub64", "math/bits.Add64"], unfollowed := true, recurses := true, named := ["bedrock/sha.rounds"], plainKeys := false, apart := false, laid := [("bedrock/sha.rounds", laid_bedrock_sha_rounds)], narrowed := true }
def ValidBytesUptoSaid : Prop := validBytesUptoRow.holds Tryz.pinned (OpenSpec.upto validBytesSpec)

end Rows
end Go.Proofs.YtofddbjnncgmlaaGreatDoor
