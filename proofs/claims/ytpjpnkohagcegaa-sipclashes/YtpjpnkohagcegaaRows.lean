/-
  No cell of these rows narrows 'for every input' (looked for: loops, veiled, ifaces, maps, wideKeys, modest, calm, conditions, laid).
  DERIVED. THE GIVEN ROWS OF THIS SEAT. 3 by the template 'for every input the law returns true; each argument reads behind the call as it read before'; 0 by the template 'total and deterministic' (their statements: YtpjpnkohagcegaaTotals.lean).
  GIVEN WITH THE SEED: the statements are not yours to turn. If you find one false, say at which input.
  Laid BY PROGRAM, IN A SANDBOX (cutbox-rows.mjs): the forced cells as the released guide's own fill.sh prints them over the translation 54bc34a9bf690305… (all of the seat's roots in one cut). By AI agents, Wed Nov 11 2026. No macro, syntax, notation, axiom, sorry.
-/
import Derived.Test.YtpjpnkohagcegaaChecked
import GoSem.Claim
import GoSem.ClaimJoined
import GoSem.ClaimMapViews
import Derived.JoinedTies
import Derived.KernelRfl
namespace Go.Proofs.Ytpjpnkohagcegaa
/- THE CELL 'sum', in the pinned program and in every row, IS THE sha256 OF THE DUMP (.gsa) THAT YtpjpnkohagcegaaProg.lean LOADS. Nothing in Lean hashes anything: it is a label: what it is worth is what the hold of that sum in a sandbox is worth. -/
noncomputable def Try.pinned : Pinned := { name := "ytpjpnkohagcegaa", sum := "54bc34a9bf690305709ea89bd7ea7b7ccd671c42cc6bf0dbbba39bfec999335a", checked := Try.checked }
namespace Rows
def none {H : Type} : Left H := { results := [], args := [] }

/-- 'bedrocklaw03.SipDigests': WHATEVER THE INPUT: true; the input reads as it did. -/
def sipDigestsSpec : ChangeSpec := { name := "sipDigests", fn := fun _ => fun
  | [d] => { results := [.lit (.bool true)], args := [d] }
  | _ => none }
def sipDigestsRow : OpenClaim := { program := "ytpjpnkohagcegaa", sum := "54bc34a9bf690305709ea89bd7ea7b7ccd671c42cc6bf0dbbba39bfec999335a", func := "bedrock/bedrocklaw03.SipDigests", spec := "sipDigests", plainKeys := false, apart := false }
def SipDigestsSaid : Prop := sipDigestsRow.holds Try.pinned (OpenSpec.ofChange sipDigestsSpec)

/-- ITS FALSE NEIGHBOUR: 'it returns false'. Refute it at one input. -/
def sipDigestsWrong : ChangeSpec := { name := "sipDigests", fn := fun _ => fun
  | [d] => { results := [.lit (.bool false)], args := [d] }
  | _ => none }
def SipDigestsWrongFalsely : Prop := sipDigestsRow.holds Try.pinned (OpenSpec.ofChange sipDigestsWrong)

/-- 'bedrocklaw03.SipClashes': WHATEVER THE INPUT: true; the input reads as it did. -/
def sipClashesSpec : ChangeSpec := { name := "sipClashes", fn := fun _ => fun
  | [d1, d2] => { results := [.lit (.bool true)], args := [d1, d2] }
  | _ => none }
def sipClashesRow : OpenClaim := { program := "ytpjpnkohagcegaa", sum := "54bc34a9bf690305709ea89bd7ea7b7ccd671c42cc6bf0dbbba39bfec999335a", func := "bedrock/bedrocklaw03.SipClashes", spec := "sipClashes", plainKeys := false, apart := false }
def SipClashesSaid : Prop := sipClashesRow.holds Try.pinned (OpenSpec.ofChange sipClashesSpec)

/-- ITS FALSE NEIGHBOUR: 'it returns false'. Refute it at one input. -/
def sipClashesWrong : ChangeSpec := { name := "sipClashes", fn := fun _ => fun
  | [d1, d2] => { results := [.lit (.bool false)], args := [d1, d2] }
  | _ => none }
def SipClashesWrongFalsely : Prop := sipClashesRow.holds Try.pinned (OpenSpec.ofChange sipClashesWrong)

/-- 'bedrocklaw03.SipFeeds': WHATEVER THE INPUT: true; the input reads as it did. -/
def sipFeedsSpec : ChangeSpec := { name := "sipFeeds", fn := fun _ => fun
  | [d1, d2] => { results := [.lit (.bool true)], args := [d1, d2] }
  | _ => none }
def sipFeedsRow : OpenClaim := { program := "ytpjpnkohagcegaa", sum := "54bc34a9bf690305709ea89bd7ea7b7ccd671c42cc6bf0dbbba39bfec999335a", func := "bedrock/bedrocklaw03.SipFeeds", spec := "sipFeeds", plainKeys := false, apart := false }
def SipFeedsSaid : Prop := sipFeedsRow.holds Try.pinned (OpenSpec.ofChange sipFeedsSpec)

/-- ITS FALSE NEIGHBOUR: 'it returns false'. Refute it at one input. -/
def sipFeedsWrong : ChangeSpec := { name := "sipFeeds", fn := fun _ => fun
  | [d1, d2] => { results := [.lit (.bool false)], args := [d1, d2] }
  | _ => none }
def SipFeedsWrongFalsely : Prop := sipFeedsRow.holds Try.pinned (OpenSpec.ofChange sipFeedsWrong)

/- THE SECOND FORM. 'bulk': how many values and letters a reading holds, each counted each time it is reached (what is shared counts as often as it is met; a slice's spare places count too). A statement '..UptoSaid' is the law's where the arguments, and the package variables that the reading takes, are together of bulk at most 1048576: NARROWER than '..Said'. Prove '..Said' where nothing that the law and all that it calls make is longer than what came in: it says more and counts as full. Else prove '..UptoSaid'. A law counts once. -/
mutual
def uptoBulk {H : Type} : DataW H → Nat
  | .lit (.string bytes) => bytes.length + 1
  | .lit _ => 1
  | .nil => 1
  | .ptr d => uptoBulk d + 1
  | .slice elems spare => uptoBulkAll elems + uptoBulkAll spare + 1
  | .agg parts => uptoBulkAll parts + 1
  | .iface _ d => uptoBulk d + 1
  | .map entries => uptoBulkEntries entries + 1
  | .held _ => 1
def uptoBulkAll {H : Type} : List (DataW H) → Nat
  | [] => 0
  | d :: r => uptoBulk d + uptoBulkAll r
def uptoBulkEntries {H : Type} : List (Lit × DataW H) → Nat
  | [] => 0
  | x :: r => uptoBulkEntry x + uptoBulkEntries r
def uptoBulkEntry {H : Type} : Lit × DataW H → Nat
  | (.string bytes, d) => bytes.length + uptoBulk d + 1
  | (_, d) => uptoBulk d + 1
 end
def uptoSmall : (H : Type) → List (DataW H) → Bool := fun _ ds => decide (uptoBulkAll ds ≤ 1048576)
def OpenSpec.upto (s : _root_.Go.ChangeSpec) : _root_.Go.OpenSpec := { _root_.Go.OpenSpec.ofChange s with cond := some uptoSmall }

/-- 'bedrocklaw03.SipDigests', WHERE WHAT IT READS IS OF BULK AT MOST 1048576: true; the input reads as it did. -/
def sipDigestsUptoRow : OpenClaim := { program := "ytpjpnkohagcegaa", sum := "54bc34a9bf690305709ea89bd7ea7b7ccd671c42cc6bf0dbbba39bfec999335a", func := "bedrock/bedrocklaw03.SipDigests", spec := "sipDigests", plainKeys := false, apart := false, narrowed := true }
def SipDigestsUptoSaid : Prop := sipDigestsUptoRow.holds Try.pinned (OpenSpec.upto sipDigestsSpec)

/-- 'bedrocklaw03.SipClashes', WHERE WHAT IT READS IS OF BULK AT MOST 1048576: true; the input reads as it did. -/
def sipClashesUptoRow : OpenClaim := { program := "ytpjpnkohagcegaa", sum := "54bc34a9bf690305709ea89bd7ea7b7ccd671c42cc6bf0dbbba39bfec999335a", func := "bedrock/bedrocklaw03.SipClashes", spec := "sipClashes", plainKeys := false, apart := false, narrowed := true }
def SipClashesUptoSaid : Prop := sipClashesUptoRow.holds Try.pinned (OpenSpec.upto sipClashesSpec)

/-- 'bedrocklaw03.SipFeeds', WHERE WHAT IT READS IS OF BULK AT MOST 1048576: true; the input reads as it did. -/
def sipFeedsUptoRow : OpenClaim := { program := "ytpjpnkohagcegaa", sum := "54bc34a9bf690305709ea89bd7ea7b7ccd671c42cc6bf0dbbba39bfec999335a", func := "bedrock/bedrocklaw03.SipFeeds", spec := "sipFeeds", plainKeys := false, apart := false, narrowed := true }
def SipFeedsUptoSaid : Prop := sipFeedsUptoRow.holds Try.pinned (OpenSpec.upto sipFeedsSpec)

end Rows
end Go.Proofs.Ytpjpnkohagcegaa
