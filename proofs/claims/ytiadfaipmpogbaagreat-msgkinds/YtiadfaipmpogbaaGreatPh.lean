/- The document's Same: its contract. -/
import Derived.Test.YtiadfaipmpogbaaGreatPh1
import Derived.Test.YtiadfaipmpogbaaGreatPh2
import Derived.Test.YtiadfaipmpogbaaGreatPh3
import Derived.Test.YtiadfaipmpogbaaGreatPh4
import Derived.Test.YtiadfaipmpogbaaGreatPh5
import Derived.Test.YtiadfaipmpogbaaGreatPh6
import Derived.Test.YtiadfaipmpogbaaGreatPh7
import Derived.Test.YtiadfaipmpogbaaGreatPh8
namespace Go.Proofs.YtiadfaipmpogbaaGreat
open Go.RowKit
open Go.Deep
set_option linter.unusedSimpArgs false
theorem rsame_any (a b : Mg) (sa sb : Vs) (w : World) (ha : MR w sa a) (hb : MR w sb b) (fa : a.fit) :
    Calls Tryz.prog 15 #[.agg (a.cells sa).toArray, .agg (b.cells sb).toArray] w fun e w' => e = .returned (.bool (decide (a = b))) ∧ Below w.heap.size w w' := by
  rw [← eqM_iff]
  unfold eqM
  cases q0 : a.kind == b.kind
  case' false =>
    simp only [Bool.false_and, Bool.and_false]
    exact rsame_0 a b sa sb w q0
  cases q1 : (a.vers.toNat : Int) == (b.vers.toNat : Int)
  case' false =>
    simp only [Bool.false_and, Bool.and_false]
    exact rsame_1 a b sa sb w q0 q1
  cases q2 : (a.serv.toNat : Int) == (b.serv.toNat : Int)
  case' false =>
    simp only [Bool.false_and, Bool.and_false]
    exact rsame_2 a b sa sb w q0 q1 q2
  cases q3 : (a.nonce.toNat : Int) == (b.nonce.toNat : Int)
  case' false =>
    simp only [Bool.false_and, Bool.and_false]
    exact rsame_3 a b sa sb w q0 q1 q2 q3
  cases q4 : a.time == b.time
  case' false =>
    simp only [Bool.false_and, Bool.and_false]
    exact rsame_4 a b sa sb w q0 q1 q2 q3 q4
  cases q5 : decide (a.dst = b.dst)
  case' false =>
    simp only [Bool.false_and, Bool.and_false]
    exact rsame_5 a b sa sb w q0 q1 q2 q3 q4 q5
  cases q6 : decide (a.src = b.src)
  case' false =>
    simp only [Bool.false_and, Bool.and_false]
    exact rsame_6 a b sa sb w q0 q1 q2 q3 q4 q5 q6
  cases q7 : a.agent.toList == b.agent.toList
  case' false =>
    simp only [Bool.false_and, Bool.and_false]
    exact rsame_7 a b sa sb w q0 q1 q2 q3 q4 q5 q6 q7
  cases q8 : (a.height.toNat : Int) == (b.height.toNat : Int)
  case' false =>
    simp only [Bool.false_and, Bool.and_false]
    exact rsame_8 a b sa sb w q0 q1 q2 q3 q4 q5 q6 q7 q8
  cases q9 : a.relay == b.relay
  case' false =>
    simp only [Bool.false_and, Bool.and_false]
    exact rsame_9 a b sa sb w q0 q1 q2 q3 q4 q5 q6 q7 q8 q9
  cases q10 : a.high == b.high
  case' false =>
    simp only [Bool.false_and, Bool.and_false]
    exact rsame_10 a b sa sb w q0 q1 q2 q3 q4 q5 q6 q7 q8 q9 q10
  cases q11 : decide (a.stop = b.stop)
  case' false =>
    simp only [Bool.false_and, Bool.and_false]
    exact rsame_11 a b sa sb w q0 q1 q2 q3 q4 q5 q6 q7 q8 q9 q10 q11
  cases q12 : decide (a.hash = b.hash)
  case' false =>
    simp only [Bool.false_and, Bool.and_false]
    exact rsame_12 a b sa sb w q0 q1 q2 q3 q4 q5 q6 q7 q8 q9 q10 q11 q12
  cases q13 : a.head.toList == b.head.toList
  case' false =>
    simp only [Bool.false_and, Bool.and_false]
    exact rsame_13 a b sa sb w q0 q1 q2 q3 q4 q5 q6 q7 q8 q9 q10 q11 q12 q13
  cases q14 : a.raw.toList == b.raw.toList
  case' false =>
    simp only [Bool.false_and, Bool.and_false]
    exact rsame_14 a b sa sb w q0 q1 q2 q3 q4 q5 q6 q7 q8 q9 q10 q11 q12 q13 q14
  simp only [Bool.true_and, Bool.and_true]
  exact rsame_15 a b sa sb w ha hb fa q0 q1 q2 q3 q4 q5 q6 q7 q8 q9 q10 q11 q12 q13 q14
end Go.Proofs.YtiadfaipmpogbaaGreat
