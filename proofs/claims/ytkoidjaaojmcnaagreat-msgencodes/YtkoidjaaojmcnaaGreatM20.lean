/- msg.Same: its contract, by the first field that is another. msg.Same: its contract, by the first field that is another. msg.Same: its contract, by the first field that is another. msg.Same: its contract. -/
import Derived.Test.YtkoidjaaojmcnaaGreatM08
import Derived.Test.YtkoidjaaojmcnaaGreatM19
namespace Go.Proofs.YtkoidjaaojmcnaaGreat
open Go.RowKit
open Go.Deep
attribute [local go_sem ↓] ldN_eq ldH_eq eqlN_eq eqlH_eq ldM_eq
section
set_option maxRecDepth 10000
set_option maxHeartbeats 40000000
theorem same_10 (a b : Mg) (sa sb : Vs) (w : World) (ha : ML w sa a) (hb : ML w sb b) (fa : a.fit) (q0 : (a.kind == b.kind) = true) (q1 : ((a.vers.toNat : Int) == (b.vers.toNat : Int)) = true) (q2 : ((a.serv.toNat : Int) == (b.serv.toNat : Int)) = true) (q3 : ((a.nonce.toNat : Int) == (b.nonce.toNat : Int)) = true) (q4 : (a.time == b.time) = true) (q5 : (decide (a.dst = b.dst)) = true) (q6 : (decide (a.src = b.src)) = true) (q7 : (a.agent.toList == b.agent.toList) = true) (q8 : ((a.height.toNat : Int) == (b.height.toNat : Int)) = true) (q9 : (a.relay == b.relay) = true) (q10 : (a.high == b.high) = false) :
    Calls Tryz.prog 10 #[.agg (a.cells sa).toArray, .agg (b.cells sb).toArray] w fun e w' => e = .returned (.bool false) ∧ Below w.heap.size w w' := by
  have J0 := hide (Two.start 38 w a b sa sb)
  have HL : Hid (∀ W, Below w.heap.size w W → Calls Tryz.prog 30 #[.agg (a.cells sa).toArray, .agg (b.cells sb).toArray] W fun e w' => e = .returned (.bool (eqL a b)) ∧ Below W.heap.size W w') := fun W h => sameLists_any a b sa sb W (ha.below h) (hb.below h) fa
  have E5 := hide (eqlN_run a.dst b.dst)
  have E6 := hide (eqlN_run a.src b.src)
  have E11 := hide (eqlH_run a.stop b.stop)
  have E12 := hide (eqlH_run a.hash b.hash)
  generalize eqL a b = bl at *
  clear ha hb fa
  go_enter Tryz.func10, Tryz.ntmps10
  have hgN : Tryz.prog.eqGuardType Tryz.prog.depth 27 = false := by kernel_rfl
  have hgH : Tryz.prog.eqGuardType Tryz.prog.depth 32 = false := by kernel_rfl
  have eW : (w.alloc (.cells (a.cells sa).toArray 38)).heap.size = w.heap.size + 1 := by simp
  have x0 := J0.out.x.f0
  have y0 := J0.out.y.f0
  have x1 := J0.out.x.f1
  have y1 := J0.out.y.f1
  have x2 := J0.out.x.f2
  have y2 := J0.out.y.f2
  have x3 := J0.out.x.f3
  have y3 := J0.out.y.f3
  have x4 := J0.out.x.f4
  have y4 := J0.out.y.f4
  have x5 := ldN_run _ J0.out.x.dst
  have y5 := ldN_run _ J0.out.y.dst
  rw [q5] at E5
  have z5 := E5.out
  have x6 := ldN_run _ J0.out.x.src
  have y6 := ldN_run _ J0.out.y.src
  rw [q6] at E6
  have z6 := E6.out
  have x7 := J0.out.x.f7
  have y7 := J0.out.y.f7
  have x8 := J0.out.x.f8
  have y8 := J0.out.y.f8
  have x9 := J0.out.x.f9
  have y9 := J0.out.y.f9
  have x10 := J0.out.x.f10
  have y10 := J0.out.y.f10
  go_upto_region 1 with (first | (with_reducible refine at_list ?_; first | refine wpList_boxA rfl _ rfl (a.cells sa).toArray rfl ?_ | refine wpList_boxA rfl _ rfl (b.cells sb).toArray rfl ?_))
  simp only [List.append]
  go_wp2_with (first | (with_reducible refine at_list ?_; first | refine wpList_boxA rfl _ rfl (a.cells sa).toArray rfl ?_ | refine wpList_boxA rfl _ rfl (b.cells sb).toArray rfl ?_))
  go_ret
  exact ⟨by simp, J0.out.bel⟩
theorem same_11 (a b : Mg) (sa sb : Vs) (w : World) (ha : ML w sa a) (hb : ML w sb b) (fa : a.fit) (q0 : (a.kind == b.kind) = true) (q1 : ((a.vers.toNat : Int) == (b.vers.toNat : Int)) = true) (q2 : ((a.serv.toNat : Int) == (b.serv.toNat : Int)) = true) (q3 : ((a.nonce.toNat : Int) == (b.nonce.toNat : Int)) = true) (q4 : (a.time == b.time) = true) (q5 : (decide (a.dst = b.dst)) = true) (q6 : (decide (a.src = b.src)) = true) (q7 : (a.agent.toList == b.agent.toList) = true) (q8 : ((a.height.toNat : Int) == (b.height.toNat : Int)) = true) (q9 : (a.relay == b.relay) = true) (q10 : (a.high == b.high) = true) (q11 : (decide (a.stop = b.stop)) = false) :
    Calls Tryz.prog 10 #[.agg (a.cells sa).toArray, .agg (b.cells sb).toArray] w fun e w' => e = .returned (.bool false) ∧ Below w.heap.size w w' := by
  have J0 := hide (Two.start 38 w a b sa sb)
  have HL : Hid (∀ W, Below w.heap.size w W → Calls Tryz.prog 30 #[.agg (a.cells sa).toArray, .agg (b.cells sb).toArray] W fun e w' => e = .returned (.bool (eqL a b)) ∧ Below W.heap.size W w') := fun W h => sameLists_any a b sa sb W (ha.below h) (hb.below h) fa
  have E5 := hide (eqlN_run a.dst b.dst)
  have E6 := hide (eqlN_run a.src b.src)
  have E11 := hide (eqlH_run a.stop b.stop)
  have E12 := hide (eqlH_run a.hash b.hash)
  generalize eqL a b = bl at *
  clear ha hb fa
  go_enter Tryz.func10, Tryz.ntmps10
  have hgN : Tryz.prog.eqGuardType Tryz.prog.depth 27 = false := by kernel_rfl
  have hgH : Tryz.prog.eqGuardType Tryz.prog.depth 32 = false := by kernel_rfl
  have eW : (w.alloc (.cells (a.cells sa).toArray 38)).heap.size = w.heap.size + 1 := by simp
  have x0 := J0.out.x.f0
  have y0 := J0.out.y.f0
  have x1 := J0.out.x.f1
  have y1 := J0.out.y.f1
  have x2 := J0.out.x.f2
  have y2 := J0.out.y.f2
  have x3 := J0.out.x.f3
  have y3 := J0.out.y.f3
  have x4 := J0.out.x.f4
  have y4 := J0.out.y.f4
  have x5 := ldN_run _ J0.out.x.dst
  have y5 := ldN_run _ J0.out.y.dst
  rw [q5] at E5
  have z5 := E5.out
  have x6 := ldN_run _ J0.out.x.src
  have y6 := ldN_run _ J0.out.y.src
  rw [q6] at E6
  have z6 := E6.out
  have x7 := J0.out.x.f7
  have y7 := J0.out.y.f7
  have x8 := J0.out.x.f8
  have y8 := J0.out.y.f8
  have x9 := J0.out.x.f9
  have y9 := J0.out.y.f9
  have x10 := J0.out.x.f10
  have y10 := J0.out.y.f10
  have x11 := ldH_run _ J0.out.x.stop
  have y11 := ldH_run _ J0.out.y.stop
  rw [q11] at E11
  have z11 := E11.out
  go_upto_region 1 with (first | (with_reducible refine at_list ?_; first | refine wpList_boxA rfl _ rfl (a.cells sa).toArray rfl ?_ | refine wpList_boxA rfl _ rfl (b.cells sb).toArray rfl ?_))
  simp only [List.append]
  go_wp2_with (first | (with_reducible refine at_list ?_; first | refine wpList_boxA rfl _ rfl (a.cells sa).toArray rfl ?_ | refine wpList_boxA rfl _ rfl (b.cells sb).toArray rfl ?_))
  go_ret
  exact ⟨by simp, J0.out.bel⟩
end
end Go.Proofs.YtkoidjaaojmcnaaGreat
namespace Go.Proofs.YtkoidjaaojmcnaaGreat
open Go.RowKit
open Go.Deep
attribute [local go_sem ↓] ldN_eq ldH_eq eqlN_eq eqlH_eq ldM_eq
section
set_option maxRecDepth 10000
set_option maxHeartbeats 40000000
theorem same_12 (a b : Mg) (sa sb : Vs) (w : World) (ha : ML w sa a) (hb : ML w sb b) (fa : a.fit) (q0 : (a.kind == b.kind) = true) (q1 : ((a.vers.toNat : Int) == (b.vers.toNat : Int)) = true) (q2 : ((a.serv.toNat : Int) == (b.serv.toNat : Int)) = true) (q3 : ((a.nonce.toNat : Int) == (b.nonce.toNat : Int)) = true) (q4 : (a.time == b.time) = true) (q5 : (decide (a.dst = b.dst)) = true) (q6 : (decide (a.src = b.src)) = true) (q7 : (a.agent.toList == b.agent.toList) = true) (q8 : ((a.height.toNat : Int) == (b.height.toNat : Int)) = true) (q9 : (a.relay == b.relay) = true) (q10 : (a.high == b.high) = true) (q11 : (decide (a.stop = b.stop)) = true) (q12 : (decide (a.hash = b.hash)) = false) :
    Calls Tryz.prog 10 #[.agg (a.cells sa).toArray, .agg (b.cells sb).toArray] w fun e w' => e = .returned (.bool false) ∧ Below w.heap.size w w' := by
  have J0 := hide (Two.start 38 w a b sa sb)
  have HL : Hid (∀ W, Below w.heap.size w W → Calls Tryz.prog 30 #[.agg (a.cells sa).toArray, .agg (b.cells sb).toArray] W fun e w' => e = .returned (.bool (eqL a b)) ∧ Below W.heap.size W w') := fun W h => sameLists_any a b sa sb W (ha.below h) (hb.below h) fa
  have E5 := hide (eqlN_run a.dst b.dst)
  have E6 := hide (eqlN_run a.src b.src)
  have E11 := hide (eqlH_run a.stop b.stop)
  have E12 := hide (eqlH_run a.hash b.hash)
  generalize eqL a b = bl at *
  clear ha hb fa
  go_enter Tryz.func10, Tryz.ntmps10
  have hgN : Tryz.prog.eqGuardType Tryz.prog.depth 27 = false := by kernel_rfl
  have hgH : Tryz.prog.eqGuardType Tryz.prog.depth 32 = false := by kernel_rfl
  have eW : (w.alloc (.cells (a.cells sa).toArray 38)).heap.size = w.heap.size + 1 := by simp
  have x0 := J0.out.x.f0
  have y0 := J0.out.y.f0
  have x1 := J0.out.x.f1
  have y1 := J0.out.y.f1
  have x2 := J0.out.x.f2
  have y2 := J0.out.y.f2
  have x3 := J0.out.x.f3
  have y3 := J0.out.y.f3
  have x4 := J0.out.x.f4
  have y4 := J0.out.y.f4
  have x5 := ldN_run _ J0.out.x.dst
  have y5 := ldN_run _ J0.out.y.dst
  rw [q5] at E5
  have z5 := E5.out
  have x6 := ldN_run _ J0.out.x.src
  have y6 := ldN_run _ J0.out.y.src
  rw [q6] at E6
  have z6 := E6.out
  have x7 := J0.out.x.f7
  have y7 := J0.out.y.f7
  have x8 := J0.out.x.f8
  have y8 := J0.out.y.f8
  have x9 := J0.out.x.f9
  have y9 := J0.out.y.f9
  have x10 := J0.out.x.f10
  have y10 := J0.out.y.f10
  have x11 := ldH_run _ J0.out.x.stop
  have y11 := ldH_run _ J0.out.y.stop
  rw [q11] at E11
  have z11 := E11.out
  have x12 := ldH_run _ J0.out.x.hash
  have y12 := ldH_run _ J0.out.y.hash
  rw [q12] at E12
  have z12 := E12.out
  go_upto_region 1 with (first | (with_reducible refine at_list ?_; first | refine wpList_boxA rfl _ rfl (a.cells sa).toArray rfl ?_ | refine wpList_boxA rfl _ rfl (b.cells sb).toArray rfl ?_))
  simp only [List.append]
  go_wp2_with (first | (with_reducible refine at_list ?_; first | refine wpList_boxA rfl _ rfl (a.cells sa).toArray rfl ?_ | refine wpList_boxA rfl _ rfl (b.cells sb).toArray rfl ?_))
  go_ret
  exact ⟨by simp, J0.out.bel⟩
theorem same_13 (a b : Mg) (sa sb : Vs) (w : World) (ha : ML w sa a) (hb : ML w sb b) (fa : a.fit) (q0 : (a.kind == b.kind) = true) (q1 : ((a.vers.toNat : Int) == (b.vers.toNat : Int)) = true) (q2 : ((a.serv.toNat : Int) == (b.serv.toNat : Int)) = true) (q3 : ((a.nonce.toNat : Int) == (b.nonce.toNat : Int)) = true) (q4 : (a.time == b.time) = true) (q5 : (decide (a.dst = b.dst)) = true) (q6 : (decide (a.src = b.src)) = true) (q7 : (a.agent.toList == b.agent.toList) = true) (q8 : ((a.height.toNat : Int) == (b.height.toNat : Int)) = true) (q9 : (a.relay == b.relay) = true) (q10 : (a.high == b.high) = true) (q11 : (decide (a.stop = b.stop)) = true) (q12 : (decide (a.hash = b.hash)) = true) (q13 : (a.head.toList == b.head.toList) = false) :
    Calls Tryz.prog 10 #[.agg (a.cells sa).toArray, .agg (b.cells sb).toArray] w fun e w' => e = .returned (.bool false) ∧ Below w.heap.size w w' := by
  have J0 := hide (Two.start 38 w a b sa sb)
  have HL : Hid (∀ W, Below w.heap.size w W → Calls Tryz.prog 30 #[.agg (a.cells sa).toArray, .agg (b.cells sb).toArray] W fun e w' => e = .returned (.bool (eqL a b)) ∧ Below W.heap.size W w') := fun W h => sameLists_any a b sa sb W (ha.below h) (hb.below h) fa
  have E5 := hide (eqlN_run a.dst b.dst)
  have E6 := hide (eqlN_run a.src b.src)
  have E11 := hide (eqlH_run a.stop b.stop)
  have E12 := hide (eqlH_run a.hash b.hash)
  generalize eqL a b = bl at *
  clear ha hb fa
  go_enter Tryz.func10, Tryz.ntmps10
  have hgN : Tryz.prog.eqGuardType Tryz.prog.depth 27 = false := by kernel_rfl
  have hgH : Tryz.prog.eqGuardType Tryz.prog.depth 32 = false := by kernel_rfl
  have eW : (w.alloc (.cells (a.cells sa).toArray 38)).heap.size = w.heap.size + 1 := by simp
  have x0 := J0.out.x.f0
  have y0 := J0.out.y.f0
  have x1 := J0.out.x.f1
  have y1 := J0.out.y.f1
  have x2 := J0.out.x.f2
  have y2 := J0.out.y.f2
  have x3 := J0.out.x.f3
  have y3 := J0.out.y.f3
  have x4 := J0.out.x.f4
  have y4 := J0.out.y.f4
  have x5 := ldN_run _ J0.out.x.dst
  have y5 := ldN_run _ J0.out.y.dst
  rw [q5] at E5
  have z5 := E5.out
  have x6 := ldN_run _ J0.out.x.src
  have y6 := ldN_run _ J0.out.y.src
  rw [q6] at E6
  have z6 := E6.out
  have x7 := J0.out.x.f7
  have y7 := J0.out.y.f7
  have x8 := J0.out.x.f8
  have y8 := J0.out.y.f8
  have x9 := J0.out.x.f9
  have y9 := J0.out.y.f9
  have x10 := J0.out.x.f10
  have y10 := J0.out.y.f10
  have x11 := ldH_run _ J0.out.x.stop
  have y11 := ldH_run _ J0.out.y.stop
  rw [q11] at E11
  have z11 := E11.out
  have x12 := ldH_run _ J0.out.x.hash
  have y12 := ldH_run _ J0.out.y.hash
  rw [q12] at E12
  have z12 := E12.out
  have x13 := J0.out.x.f17
  have y13 := J0.out.y.f17
  go_upto_region 1 with (first | (with_reducible refine at_list ?_; first | refine wpList_boxA rfl _ rfl (a.cells sa).toArray rfl ?_ | refine wpList_boxA rfl _ rfl (b.cells sb).toArray rfl ?_))
  simp only [List.append]
  go_wp2_with (first | (with_reducible refine at_list ?_; first | refine wpList_boxA rfl _ rfl (a.cells sa).toArray rfl ?_ | refine wpList_boxA rfl _ rfl (b.cells sb).toArray rfl ?_))
  go_ret
  exact ⟨by simp, J0.out.bel⟩
end
end Go.Proofs.YtkoidjaaojmcnaaGreat
namespace Go.Proofs.YtkoidjaaojmcnaaGreat
open Go.RowKit
open Go.Deep
attribute [local go_sem ↓] ldN_eq ldH_eq eqlN_eq eqlH_eq ldM_eq
section
set_option maxRecDepth 10000
set_option maxHeartbeats 40000000
theorem same_14 (a b : Mg) (sa sb : Vs) (w : World) (ha : ML w sa a) (hb : ML w sb b) (fa : a.fit) (q0 : (a.kind == b.kind) = true) (q1 : ((a.vers.toNat : Int) == (b.vers.toNat : Int)) = true) (q2 : ((a.serv.toNat : Int) == (b.serv.toNat : Int)) = true) (q3 : ((a.nonce.toNat : Int) == (b.nonce.toNat : Int)) = true) (q4 : (a.time == b.time) = true) (q5 : (decide (a.dst = b.dst)) = true) (q6 : (decide (a.src = b.src)) = true) (q7 : (a.agent.toList == b.agent.toList) = true) (q8 : ((a.height.toNat : Int) == (b.height.toNat : Int)) = true) (q9 : (a.relay == b.relay) = true) (q10 : (a.high == b.high) = true) (q11 : (decide (a.stop = b.stop)) = true) (q12 : (decide (a.hash = b.hash)) = true) (q13 : (a.head.toList == b.head.toList) = true) (q14 : (a.raw.toList == b.raw.toList) = false) :
    Calls Tryz.prog 10 #[.agg (a.cells sa).toArray, .agg (b.cells sb).toArray] w fun e w' => e = .returned (.bool false) ∧ Below w.heap.size w w' := by
  have J0 := hide (Two.start 38 w a b sa sb)
  have HL : Hid (∀ W, Below w.heap.size w W → Calls Tryz.prog 30 #[.agg (a.cells sa).toArray, .agg (b.cells sb).toArray] W fun e w' => e = .returned (.bool (eqL a b)) ∧ Below W.heap.size W w') := fun W h => sameLists_any a b sa sb W (ha.below h) (hb.below h) fa
  have E5 := hide (eqlN_run a.dst b.dst)
  have E6 := hide (eqlN_run a.src b.src)
  have E11 := hide (eqlH_run a.stop b.stop)
  have E12 := hide (eqlH_run a.hash b.hash)
  generalize eqL a b = bl at *
  clear ha hb fa
  go_enter Tryz.func10, Tryz.ntmps10
  have hgN : Tryz.prog.eqGuardType Tryz.prog.depth 27 = false := by kernel_rfl
  have hgH : Tryz.prog.eqGuardType Tryz.prog.depth 32 = false := by kernel_rfl
  have eW : (w.alloc (.cells (a.cells sa).toArray 38)).heap.size = w.heap.size + 1 := by simp
  have x0 := J0.out.x.f0
  have y0 := J0.out.y.f0
  have x1 := J0.out.x.f1
  have y1 := J0.out.y.f1
  have x2 := J0.out.x.f2
  have y2 := J0.out.y.f2
  have x3 := J0.out.x.f3
  have y3 := J0.out.y.f3
  have x4 := J0.out.x.f4
  have y4 := J0.out.y.f4
  have x5 := ldN_run _ J0.out.x.dst
  have y5 := ldN_run _ J0.out.y.dst
  rw [q5] at E5
  have z5 := E5.out
  have x6 := ldN_run _ J0.out.x.src
  have y6 := ldN_run _ J0.out.y.src
  rw [q6] at E6
  have z6 := E6.out
  have x7 := J0.out.x.f7
  have y7 := J0.out.y.f7
  have x8 := J0.out.x.f8
  have y8 := J0.out.y.f8
  have x9 := J0.out.x.f9
  have y9 := J0.out.y.f9
  have x10 := J0.out.x.f10
  have y10 := J0.out.y.f10
  have x11 := ldH_run _ J0.out.x.stop
  have y11 := ldH_run _ J0.out.y.stop
  rw [q11] at E11
  have z11 := E11.out
  have x12 := ldH_run _ J0.out.x.hash
  have y12 := ldH_run _ J0.out.y.hash
  rw [q12] at E12
  have z12 := E12.out
  have x13 := J0.out.x.f17
  have y13 := J0.out.y.f17
  have x14 := J0.out.x.f18
  have y14 := J0.out.y.f18
  go_upto_region 1 with (first | (with_reducible refine at_list ?_; first | refine wpList_boxA rfl _ rfl (a.cells sa).toArray rfl ?_ | refine wpList_boxA rfl _ rfl (b.cells sb).toArray rfl ?_))
  simp only [List.append]
  go_wp2_with (first | (with_reducible refine at_list ?_; first | refine wpList_boxA rfl _ rfl (a.cells sa).toArray rfl ?_ | refine wpList_boxA rfl _ rfl (b.cells sb).toArray rfl ?_))
  go_ret
  exact ⟨by simp, J0.out.bel⟩
theorem same_15 (a b : Mg) (sa sb : Vs) (w : World) (ha : ML w sa a) (hb : ML w sb b) (fa : a.fit) (q0 : (a.kind == b.kind) = true) (q1 : ((a.vers.toNat : Int) == (b.vers.toNat : Int)) = true) (q2 : ((a.serv.toNat : Int) == (b.serv.toNat : Int)) = true) (q3 : ((a.nonce.toNat : Int) == (b.nonce.toNat : Int)) = true) (q4 : (a.time == b.time) = true) (q5 : (decide (a.dst = b.dst)) = true) (q6 : (decide (a.src = b.src)) = true) (q7 : (a.agent.toList == b.agent.toList) = true) (q8 : ((a.height.toNat : Int) == (b.height.toNat : Int)) = true) (q9 : (a.relay == b.relay) = true) (q10 : (a.high == b.high) = true) (q11 : (decide (a.stop = b.stop)) = true) (q12 : (decide (a.hash = b.hash)) = true) (q13 : (a.head.toList == b.head.toList) = true) (q14 : (a.raw.toList == b.raw.toList) = true) :
    Calls Tryz.prog 10 #[.agg (a.cells sa).toArray, .agg (b.cells sb).toArray] w fun e w' => e = .returned (.bool (eqL a b)) ∧ Below w.heap.size w w' := by
  have J0 := hide (Two.start 38 w a b sa sb)
  have HL : Hid (∀ W, Below w.heap.size w W → Calls Tryz.prog 30 #[.agg (a.cells sa).toArray, .agg (b.cells sb).toArray] W fun e w' => e = .returned (.bool (eqL a b)) ∧ Below W.heap.size W w') := fun W h => sameLists_any a b sa sb W (ha.below h) (hb.below h) fa
  have E5 := hide (eqlN_run a.dst b.dst)
  have E6 := hide (eqlN_run a.src b.src)
  have E11 := hide (eqlH_run a.stop b.stop)
  have E12 := hide (eqlH_run a.hash b.hash)
  generalize eqL a b = bl at *
  clear ha hb fa
  go_enter Tryz.func10, Tryz.ntmps10
  have hgN : Tryz.prog.eqGuardType Tryz.prog.depth 27 = false := by kernel_rfl
  have hgH : Tryz.prog.eqGuardType Tryz.prog.depth 32 = false := by kernel_rfl
  have eW : (w.alloc (.cells (a.cells sa).toArray 38)).heap.size = w.heap.size + 1 := by simp
  have x0 := J0.out.x.f0
  have y0 := J0.out.y.f0
  have x1 := J0.out.x.f1
  have y1 := J0.out.y.f1
  have x2 := J0.out.x.f2
  have y2 := J0.out.y.f2
  have x3 := J0.out.x.f3
  have y3 := J0.out.y.f3
  have x4 := J0.out.x.f4
  have y4 := J0.out.y.f4
  have x5 := ldN_run _ J0.out.x.dst
  have y5 := ldN_run _ J0.out.y.dst
  rw [q5] at E5
  have z5 := E5.out
  have x6 := ldN_run _ J0.out.x.src
  have y6 := ldN_run _ J0.out.y.src
  rw [q6] at E6
  have z6 := E6.out
  have x7 := J0.out.x.f7
  have y7 := J0.out.y.f7
  have x8 := J0.out.x.f8
  have y8 := J0.out.y.f8
  have x9 := J0.out.x.f9
  have y9 := J0.out.y.f9
  have x10 := J0.out.x.f10
  have y10 := J0.out.y.f10
  have x11 := ldH_run _ J0.out.x.stop
  have y11 := ldH_run _ J0.out.y.stop
  rw [q11] at E11
  have z11 := E11.out
  have x12 := ldH_run _ J0.out.x.hash
  have y12 := ldH_run _ J0.out.y.hash
  rw [q12] at E12
  have z12 := E12.out
  have x13 := J0.out.x.f17
  have y13 := J0.out.y.f17
  have x14 := J0.out.x.f18
  have y14 := J0.out.y.f18
  have xM := ldM_run J0.out.rx
  have yM := ldM_run J0.out.ry
  go_upto_region 1 with (first | (go_at_call 30; refine (HL.out _ J0.out.bel).mono ?_; rintro e w1 ⟨rfl, be⟩; have B1 := hide (below_next J0.out.bel be); clear be) | (with_reducible refine at_list ?_; first | refine wpList_boxA rfl _ rfl (a.cells sa).toArray rfl ?_ | refine wpList_boxA rfl _ rfl (b.cells sb).toArray rfl ?_))
  simp only [List.append]
  go_wp2_with (first | (go_at_call 30; refine (HL.out _ J0.out.bel).mono ?_; rintro e w1 ⟨rfl, be⟩; have B1 := hide (below_next J0.out.bel be); clear be) | (with_reducible refine at_list ?_; first | refine wpList_boxA rfl _ rfl (a.cells sa).toArray rfl ?_ | refine wpList_boxA rfl _ rfl (b.cells sb).toArray rfl ?_))
  go_ret
  exact ⟨by simp, B1.out⟩
end
end Go.Proofs.YtkoidjaaojmcnaaGreat
namespace Go.Proofs.YtkoidjaaojmcnaaGreat
open Go.RowKit
open Go.Deep
set_option linter.unusedSimpArgs false
theorem same_any (a b : Mg) (sa sb : Vs) (w : World) (ha : ML w sa a) (hb : ML w sb b) (fa : a.fit) :
    Calls Tryz.prog 10 #[.agg (a.cells sa).toArray, .agg (b.cells sb).toArray] w fun e w' => e = .returned (.bool (decide (a = b))) ∧ Below w.heap.size w w' := by
  rw [← eqM_iff]
  unfold eqM
  cases q0 : a.kind == b.kind
  case' false =>
    simp only [Bool.false_and, Bool.and_false]
    exact same_0 a b sa sb w ha hb fa q0
  cases q1 : (a.vers.toNat : Int) == (b.vers.toNat : Int)
  case' false =>
    simp only [Bool.false_and, Bool.and_false]
    exact same_1 a b sa sb w ha hb fa q0 q1
  cases q2 : (a.serv.toNat : Int) == (b.serv.toNat : Int)
  case' false =>
    simp only [Bool.false_and, Bool.and_false]
    exact same_2 a b sa sb w ha hb fa q0 q1 q2
  cases q3 : (a.nonce.toNat : Int) == (b.nonce.toNat : Int)
  case' false =>
    simp only [Bool.false_and, Bool.and_false]
    exact same_3 a b sa sb w ha hb fa q0 q1 q2 q3
  cases q4 : a.time == b.time
  case' false =>
    simp only [Bool.false_and, Bool.and_false]
    exact same_4 a b sa sb w ha hb fa q0 q1 q2 q3 q4
  cases q5 : decide (a.dst = b.dst)
  case' false =>
    simp only [Bool.false_and, Bool.and_false]
    exact same_5 a b sa sb w ha hb fa q0 q1 q2 q3 q4 q5
  cases q6 : decide (a.src = b.src)
  case' false =>
    simp only [Bool.false_and, Bool.and_false]
    exact same_6 a b sa sb w ha hb fa q0 q1 q2 q3 q4 q5 q6
  cases q7 : a.agent.toList == b.agent.toList
  case' false =>
    simp only [Bool.false_and, Bool.and_false]
    exact same_7 a b sa sb w ha hb fa q0 q1 q2 q3 q4 q5 q6 q7
  cases q8 : (a.height.toNat : Int) == (b.height.toNat : Int)
  case' false =>
    simp only [Bool.false_and, Bool.and_false]
    exact same_8 a b sa sb w ha hb fa q0 q1 q2 q3 q4 q5 q6 q7 q8
  cases q9 : a.relay == b.relay
  case' false =>
    simp only [Bool.false_and, Bool.and_false]
    exact same_9 a b sa sb w ha hb fa q0 q1 q2 q3 q4 q5 q6 q7 q8 q9
  cases q10 : a.high == b.high
  case' false =>
    simp only [Bool.false_and, Bool.and_false]
    exact same_10 a b sa sb w ha hb fa q0 q1 q2 q3 q4 q5 q6 q7 q8 q9 q10
  cases q11 : decide (a.stop = b.stop)
  case' false =>
    simp only [Bool.false_and, Bool.and_false]
    exact same_11 a b sa sb w ha hb fa q0 q1 q2 q3 q4 q5 q6 q7 q8 q9 q10 q11
  cases q12 : decide (a.hash = b.hash)
  case' false =>
    simp only [Bool.false_and, Bool.and_false]
    exact same_12 a b sa sb w ha hb fa q0 q1 q2 q3 q4 q5 q6 q7 q8 q9 q10 q11 q12
  cases q13 : a.head.toList == b.head.toList
  case' false =>
    simp only [Bool.false_and, Bool.and_false]
    exact same_13 a b sa sb w ha hb fa q0 q1 q2 q3 q4 q5 q6 q7 q8 q9 q10 q11 q12 q13
  cases q14 : a.raw.toList == b.raw.toList
  case' false =>
    simp only [Bool.false_and, Bool.and_false]
    exact same_14 a b sa sb w ha hb fa q0 q1 q2 q3 q4 q5 q6 q7 q8 q9 q10 q11 q12 q13 q14
  simp only [Bool.true_and, Bool.and_true]
  exact same_15 a b sa sb w ha hb fa q0 q1 q2 q3 q4 q5 q6 q7 q8 q9 q10 q11 q12 q13 q14
end Go.Proofs.YtkoidjaaojmcnaaGreat
