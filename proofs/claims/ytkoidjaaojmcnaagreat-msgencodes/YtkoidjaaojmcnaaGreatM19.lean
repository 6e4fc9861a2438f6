/- msg.Same: its contract, by the first field that is another. msg.Same: its contract, by the first field that is another. msg.Same: its contract, by the first field that is another. -/
import Derived.Test.YtkoidjaaojmcnaaGreatM08
namespace Go.Proofs.YtkoidjaaojmcnaaGreat
open Go.RowKit
open Go.Deep
attribute [local go_sem ↓] ldN_eq ldH_eq eqlN_eq eqlH_eq ldM_eq
section
set_option maxRecDepth 10000
set_option maxHeartbeats 40000000
theorem same_0 (a b : Mg) (sa sb : Vs) (w : World) (ha : ML w sa a) (hb : ML w sb b) (fa : a.fit) (q0 : (a.kind == b.kind) = false) :
    Calls Tryz.prog 10 #[.agg (a.cells sa).toArray, .agg (b.cells sb).toArray] w fun e w' => e = .returned (.bool false) ∧ Below w.heap.size w w' := by
  have J0 := hide (Two.start 38 w a b sa sb)
  have HL : Hid (∀ W, Below w.heap.size w W → Calls Tryz.prog 30 #[.agg (a.cells sa).toArray, .agg (b.cells sb).toArray] W fun e w' => e = .returned (.bool (eqL a b)) ∧ Below W.heap.size W w') := fun W h => sameLists_any a b sa sb W (ha.below h) (hb.below h) fa
  have E5 := hide (eqlN_run a.dst b.dst)
  have E6 := hide (eqlN_run a.src b.src)
  have E11 := hide (eqlH_run a.stop b.stop)
  have E12 := hide (eqlH_run a.hash b.hash)
  generalize eqL a b = bl at *
  clear ha hb fa
  go_enter Tryz.func10, Tryz.ntmps10
  have hgN : Tryz.prog.eqGuardType Tryz.prog.depth 27 = false := by kernel_rfl
  have hgH : Tryz.prog.eqGuardType Tryz.prog.depth 32 = false := by kernel_rfl
  have eW : (w.alloc (.cells (a.cells sa).toArray 38)).heap.size = w.heap.size + 1 := by simp
  have x0 := J0.out.x.f0
  have y0 := J0.out.y.f0
  go_upto_region 1 with (first | (with_reducible refine at_list ?_; first | refine wpList_boxA rfl _ rfl (a.cells sa).toArray rfl ?_ | refine wpList_boxA rfl _ rfl (b.cells sb).toArray rfl ?_))
  simp only [List.append]
  go_wp2_with (first | (with_reducible refine at_list ?_; first | refine wpList_boxA rfl _ rfl (a.cells sa).toArray rfl ?_ | refine wpList_boxA rfl _ rfl (b.cells sb).toArray rfl ?_))
  go_ret
  exact ⟨by simp, J0.out.bel⟩
theorem same_1 (a b : Mg) (sa sb : Vs) (w : World) (ha : ML w sa a) (hb : ML w sb b) (fa : a.fit) (q0 : (a.kind == b.kind) = true) (q1 : ((a.vers.toNat : Int) == (b.vers.toNat : Int)) = false) :
    Calls Tryz.prog 10 #[.agg (a.cells sa).toArray, .agg (b.cells sb).toArray] w fun e w' => e = .returned (.bool false) ∧ Below w.heap.size w w' := by
  have J0 := hide (Two.start 38 w a b sa sb)
  have HL : Hid (∀ W, Below w.heap.size w W → Calls Tryz.prog 30 #[.agg (a.cells sa).toArray, .agg (b.cells sb).toArray] W fun e w' => e = .returned (.bool (eqL a b)) ∧ Below W.heap.size W w') := fun W h => sameLists_any a b sa sb W (ha.below h) (hb.below h) fa
  have E5 := hide (eqlN_run a.dst b.dst)
  have E6 := hide (eqlN_run a.src b.src)
  have E11 := hide (eqlH_run a.stop b.stop)
  have E12 := hide (eqlH_run a.hash b.hash)
  generalize eqL a b = bl at *
  clear ha hb fa
  go_enter Tryz.func10, Tryz.ntmps10
  have hgN : Tryz.prog.eqGuardType Tryz.prog.depth 27 = false := by kernel_rfl
  have hgH : Tryz.prog.eqGuardType Tryz.prog.depth 32 = false := by kernel_rfl
  have eW : (w.alloc (.cells (a.cells sa).toArray 38)).heap.size = w.heap.size + 1 := by simp
  have x0 := J0.out.x.f0
  have y0 := J0.out.y.f0
  have x1 := J0.out.x.f1
  have y1 := J0.out.y.f1
  go_upto_region 1 with (first | (with_reducible refine at_list ?_; first | refine wpList_boxA rfl _ rfl (a.cells sa).toArray rfl ?_ | refine wpList_boxA rfl _ rfl (b.cells sb).toArray rfl ?_))
  simp only [List.append]
  go_wp2_with (first | (with_reducible refine at_list ?_; first | refine wpList_boxA rfl _ rfl (a.cells sa).toArray rfl ?_ | refine wpList_boxA rfl _ rfl (b.cells sb).toArray rfl ?_))
  go_ret
  exact ⟨by simp, J0.out.bel⟩
theorem same_2 (a b : Mg) (sa sb : Vs) (w : World) (ha : ML w sa a) (hb : ML w sb b) (fa : a.fit) (q0 : (a.kind == b.kind) = true) (q1 : ((a.vers.toNat : Int) == (b.vers.toNat : Int)) = true) (q2 : ((a.serv.toNat : Int) == (b.serv.toNat : Int)) = false) :
    Calls Tryz.prog 10 #[.agg (a.cells sa).toArray, .agg (b.cells sb).toArray] w fun e w' => e = .returned (.bool false) ∧ Below w.heap.size w w' := by
  have J0 := hide (Two.start 38 w a b sa sb)
  have HL : Hid (∀ W, Below w.heap.size w W → Calls Tryz.prog 30 #[.agg (a.cells sa).toArray, .agg (b.cells sb).toArray] W fun e w' => e = .returned (.bool (eqL a b)) ∧ Below W.heap.size W w') := fun W h => sameLists_any a b sa sb W (ha.below h) (hb.below h) fa
  have E5 := hide (eqlN_run a.dst b.dst)
  have E6 := hide (eqlN_run a.src b.src)
  have E11 := hide (eqlH_run a.stop b.stop)
  have E12 := hide (eqlH_run a.hash b.hash)
  generalize eqL a b = bl at *
  clear ha hb fa
  go_enter Tryz.func10, Tryz.ntmps10
  have hgN : Tryz.prog.eqGuardType Tryz.prog.depth 27 = false := by kernel_rfl
  have hgH : Tryz.prog.eqGuardType Tryz.prog.depth 32 = false := by kernel_rfl
  have eW : (w.alloc (.cells (a.cells sa).toArray 38)).heap.size = w.heap.size + 1 := by simp
  have x0 := J0.out.x.f0
  have y0 := J0.out.y.f0
  have x1 := J0.out.x.f1
  have y1 := J0.out.y.f1
  have x2 := J0.out.x.f2
  have y2 := J0.out.y.f2
  go_upto_region 1 with (first | (with_reducible refine at_list ?_; first | refine wpList_boxA rfl _ rfl (a.cells sa).toArray rfl ?_ | refine wpList_boxA rfl _ rfl (b.cells sb).toArray rfl ?_))
  simp only [List.append]
  go_wp2_with (first | (with_reducible refine at_list ?_; first | refine wpList_boxA rfl _ rfl (a.cells sa).toArray rfl ?_ | refine wpList_boxA rfl _ rfl (b.cells sb).toArray rfl ?_))
  go_ret
  exact ⟨by simp, J0.out.bel⟩
theorem same_3 (a b : Mg) (sa sb : Vs) (w : World) (ha : ML w sa a) (hb : ML w sb b) (fa : a.fit) (q0 : (a.kind == b.kind) = true) (q1 : ((a.vers.toNat : Int) == (b.vers.toNat : Int)) = true) (q2 : ((a.serv.toNat : Int) == (b.serv.toNat : Int)) = true) (q3 : ((a.nonce.toNat : Int) == (b.nonce.toNat : Int)) = false) :
    Calls Tryz.prog 10 #[.agg (a.cells sa).toArray, .agg (b.cells sb).toArray] w fun e w' => e = .returned (.bool false) ∧ Below w.heap.size w w' := by
  have J0 := hide (Two.start 38 w a b sa sb)
  have HL : Hid (∀ W, Below w.heap.size w W → Calls Tryz.prog 30 #[.agg (a.cells sa).toArray, .agg (b.cells sb).toArray] W fun e w' => e = .returned (.bool (eqL a b)) ∧ Below W.heap.size W w') := fun W h => sameLists_any a b sa sb W (ha.below h) (hb.below h) fa
  have E5 := hide (eqlN_run a.dst b.dst)
  have E6 := hide (eqlN_run a.src b.src)
  have E11 := hide (eqlH_run a.stop b.stop)
  have E12 := hide (eqlH_run a.hash b.hash)
  generalize eqL a b = bl at *
  clear ha hb fa
  go_enter Tryz.func10, Tryz.ntmps10
  have hgN : Tryz.prog.eqGuardType Tryz.prog.depth 27 = false := by kernel_rfl
  have hgH : Tryz.prog.eqGuardType Tryz.prog.depth 32 = false := by kernel_rfl
  have eW : (w.alloc (.cells (a.cells sa).toArray 38)).heap.size = w.heap.size + 1 := by simp
  have x0 := J0.out.x.f0
  have y0 := J0.out.y.f0
  have x1 := J0.out.x.f1
  have y1 := J0.out.y.f1
  have x2 := J0.out.x.f2
  have y2 := J0.out.y.f2
  have x3 := J0.out.x.f3
  have y3 := J0.out.y.f3
  go_upto_region 1 with (first | (with_reducible refine at_list ?_; first | refine wpList_boxA rfl _ rfl (a.cells sa).toArray rfl ?_ | refine wpList_boxA rfl _ rfl (b.cells sb).toArray rfl ?_))
  simp only [List.append]
  go_wp2_with (first | (with_reducible refine at_list ?_; first | refine wpList_boxA rfl _ rfl (a.cells sa).toArray rfl ?_ | refine wpList_boxA rfl _ rfl (b.cells sb).toArray rfl ?_))
  go_ret
  exact ⟨by simp, J0.out.bel⟩
theorem same_4 (a b : Mg) (sa sb : Vs) (w : World) (ha : ML w sa a) (hb : ML w sb b) (fa : a.fit) (q0 : (a.kind == b.kind) = true) (q1 : ((a.vers.toNat : Int) == (b.vers.toNat : Int)) = true) (q2 : ((a.serv.toNat : Int) == (b.serv.toNat : Int)) = true) (q3 : ((a.nonce.toNat : Int) == (b.nonce.toNat : Int)) = true) (q4 : (a.time == b.time) = false) :
    Calls Tryz.prog 10 #[.agg (a.cells sa).toArray, .agg (b.cells sb).toArray] w fun e w' => e = .returned (.bool false) ∧ Below w.heap.size w w' := by
  have J0 := hide (Two.start 38 w a b sa sb)
  have HL : Hid (∀ W, Below w.heap.size w W → Calls Tryz.prog 30 #[.agg (a.cells sa).toArray, .agg (b.cells sb).toArray] W fun e w' => e = .returned (.bool (eqL a b)) ∧ Below W.heap.size W w') := fun W h => sameLists_any a b sa sb W (ha.below h) (hb.below h) fa
  have E5 := hide (eqlN_run a.dst b.dst)
  have E6 := hide (eqlN_run a.src b.src)
  have E11 := hide (eqlH_run a.stop b.stop)
  have E12 := hide (eqlH_run a.hash b.hash)
  generalize eqL a b = bl at *
  clear ha hb fa
  go_enter Tryz.func10, Tryz.ntmps10
  have hgN : Tryz.prog.eqGuardType Tryz.prog.depth 27 = false := by kernel_rfl
  have hgH : Tryz.prog.eqGuardType Tryz.prog.depth 32 = false := by kernel_rfl
  have eW : (w.alloc (.cells (a.cells sa).toArray 38)).heap.size = w.heap.size + 1 := by simp
  have x0 := J0.out.x.f0
  have y0 := J0.out.y.f0
  have x1 := J0.out.x.f1
  have y1 := J0.out.y.f1
  have x2 := J0.out.x.f2
  have y2 := J0.out.y.f2
  have x3 := J0.out.x.f3
  have y3 := J0.out.y.f3
  have x4 := J0.out.x.f4
  have y4 := J0.out.y.f4
  go_upto_region 1 with (first | (with_reducible refine at_list ?_; first | refine wpList_boxA rfl _ rfl (a.cells sa).toArray rfl ?_ | refine wpList_boxA rfl _ rfl (b.cells sb).toArray rfl ?_))
  simp only [List.append]
  go_wp2_with (first | (with_reducible refine at_list ?_; first | refine wpList_boxA rfl _ rfl (a.cells sa).toArray rfl ?_ | refine wpList_boxA rfl _ rfl (b.cells sb).toArray rfl ?_))
  go_ret
  exact ⟨by simp, J0.out.bel⟩
end
end Go.Proofs.YtkoidjaaojmcnaaGreat
namespace Go.Proofs.YtkoidjaaojmcnaaGreat
open Go.RowKit
open Go.Deep
attribute [local go_sem ↓] ldN_eq ldH_eq eqlN_eq eqlH_eq ldM_eq
section
set_option maxRecDepth 10000
set_option maxHeartbeats 40000000
theorem same_5 (a b : Mg) (sa sb : Vs) (w : World) (ha : ML w sa a) (hb : ML w sb b) (fa : a.fit) (q0 : (a.kind == b.kind) = true) (q1 : ((a.vers.toNat : Int) == (b.vers.toNat : Int)) = true) (q2 : ((a.serv.toNat : Int) == (b.serv.toNat : Int)) = true) (q3 : ((a.nonce.toNat : Int) == (b.nonce.toNat : Int)) = true) (q4 : (a.time == b.time) = true) (q5 : (decide (a.dst = b.dst)) = false) :
    Calls Tryz.prog 10 #[.agg (a.cells sa).toArray, .agg (b.cells sb).toArray] w fun e w' => e = .returned (.bool false) ∧ Below w.heap.size w w' := by
  have J0 := hide (Two.start 38 w a b sa sb)
  have HL : Hid (∀ W, Below w.heap.size w W → Calls Tryz.prog 30 #[.agg (a.cells sa).toArray, .agg (b.cells sb).toArray] W fun e w' => e = .returned (.bool (eqL a b)) ∧ Below W.heap.size W w') := fun W h => sameLists_any a b sa sb W (ha.below h) (hb.below h) fa
  have E5 := hide (eqlN_run a.dst b.dst)
  have E6 := hide (eqlN_run a.src b.src)
  have E11 := hide (eqlH_run a.stop b.stop)
  have E12 := hide (eqlH_run a.hash b.hash)
  generalize eqL a b = bl at *
  clear ha hb fa
  go_enter Tryz.func10, Tryz.ntmps10
  have hgN : Tryz.prog.eqGuardType Tryz.prog.depth 27 = false := by kernel_rfl
  have hgH : Tryz.prog.eqGuardType Tryz.prog.depth 32 = false := by kernel_rfl
  have eW : (w.alloc (.cells (a.cells sa).toArray 38)).heap.size = w.heap.size + 1 := by simp
  have x0 := J0.out.x.f0
  have y0 := J0.out.y.f0
  have x1 := J0.out.x.f1
  have y1 := J0.out.y.f1
  have x2 := J0.out.x.f2
  have y2 := J0.out.y.f2
  have x3 := J0.out.x.f3
  have y3 := J0.out.y.f3
  have x4 := J0.out.x.f4
  have y4 := J0.out.y.f4
  have x5 := ldN_run _ J0.out.x.dst
  have y5 := ldN_run _ J0.out.y.dst
  rw [q5] at E5
  have z5 := E5.out
  go_upto_region 1 with (first | (with_reducible refine at_list ?_; first | refine wpList_boxA rfl _ rfl (a.cells sa).toArray rfl ?_ | refine wpList_boxA rfl _ rfl (b.cells sb).toArray rfl ?_))
  simp only [List.append]
  go_wp2_with (first | (with_reducible refine at_list ?_; first | refine wpList_boxA rfl _ rfl (a.cells sa).toArray rfl ?_ | refine wpList_boxA rfl _ rfl (b.cells sb).toArray rfl ?_))
  go_ret
  exact ⟨by simp, J0.out.bel⟩
theorem same_6 (a b : Mg) (sa sb : Vs) (w : World) (ha : ML w sa a) (hb : ML w sb b) (fa : a.fit) (q0 : (a.kind == b.kind) = true) (q1 : ((a.vers.toNat : Int) == (b.vers.toNat : Int)) = true) (q2 : ((a.serv.toNat : Int) == (b.serv.toNat : Int)) = true) (q3 : ((a.nonce.toNat : Int) == (b.nonce.toNat : Int)) = true) (q4 : (a.time == b.time) = true) (q5 : (decide (a.dst = b.dst)) = true) (q6 : (decide (a.src = b.src)) = false) :
    Calls Tryz.prog 10 #[.agg (a.cells sa).toArray, .agg (b.cells sb).toArray] w fun e w' => e = .returned (.bool false) ∧ Below w.heap.size w w' := by
  have J0 := hide (Two.start 38 w a b sa sb)
  have HL : Hid (∀ W, Below w.heap.size w W → Calls Tryz.prog 30 #[.agg (a.cells sa).toArray, .agg (b.cells sb).toArray] W fun e w' => e = .returned (.bool (eqL a b)) ∧ Below W.heap.size W w') := fun W h => sameLists_any a b sa sb W (ha.below h) (hb.below h) fa
  have E5 := hide (eqlN_run a.dst b.dst)
  have E6 := hide (eqlN_run a.src b.src)
  have E11 := hide (eqlH_run a.stop b.stop)
  have E12 := hide (eqlH_run a.hash b.hash)
  generalize eqL a b = bl at *
  clear ha hb fa
  go_enter Tryz.func10, Tryz.ntmps10
  have hgN : Tryz.prog.eqGuardType Tryz.prog.depth 27 = false := by kernel_rfl
  have hgH : Tryz.prog.eqGuardType Tryz.prog.depth 32 = false := by kernel_rfl
  have eW : (w.alloc (.cells (a.cells sa).toArray 38)).heap.size = w.heap.size + 1 := by simp
  have x0 := J0.out.x.f0
  have y0 := J0.out.y.f0
  have x1 := J0.out.x.f1
  have y1 := J0.out.y.f1
  have x2 := J0.out.x.f2
  have y2 := J0.out.y.f2
  have x3 := J0.out.x.f3
  have y3 := J0.out.y.f3
  have x4 := J0.out.x.f4
  have y4 := J0.out.y.f4
  have x5 := ldN_run _ J0.out.x.dst
  have y5 := ldN_run _ J0.out.y.dst
  rw [q5] at E5
  have z5 := E5.out
  have x6 := ldN_run _ J0.out.x.src
  have y6 := ldN_run _ J0.out.y.src
  rw [q6] at E6
  have z6 := E6.out
  go_upto_region 1 with (first | (with_reducible refine at_list ?_; first | refine wpList_boxA rfl _ rfl (a.cells sa).toArray rfl ?_ | refine wpList_boxA rfl _ rfl (b.cells sb).toArray rfl ?_))
  simp only [List.append]
  go_wp2_with (first | (with_reducible refine at_list ?_; first | refine wpList_boxA rfl _ rfl (a.cells sa).toArray rfl ?_ | refine wpList_boxA rfl _ rfl (b.cells sb).toArray rfl ?_))
  go_ret
  exact ⟨by simp, J0.out.bel⟩
theorem same_7 (a b : Mg) (sa sb : Vs) (w : World) (ha : ML w sa a) (hb : ML w sb b) (fa : a.fit) (q0 : (a.kind == b.kind) = true) (q1 : ((a.vers.toNat : Int) == (b.vers.toNat : Int)) = true) (q2 : ((a.serv.toNat : Int) == (b.serv.toNat : Int)) = true) (q3 : ((a.nonce.toNat : Int) == (b.nonce.toNat : Int)) = true) (q4 : (a.time == b.time) = true) (q5 : (decide (a.dst = b.dst)) = true) (q6 : (decide (a.src = b.src)) = true) (q7 : (a.agent.toList == b.agent.toList) = false) :
    Calls Tryz.prog 10 #[.agg (a.cells sa).toArray, .agg (b.cells sb).toArray] w fun e w' => e = .returned (.bool false) ∧ Below w.heap.size w w' := by
  have J0 := hide (Two.start 38 w a b sa sb)
  have HL : Hid (∀ W, Below w.heap.size w W → Calls Tryz.prog 30 #[.agg (a.cells sa).toArray, .agg (b.cells sb).toArray] W fun e w' => e = .returned (.bool (eqL a b)) ∧ Below W.heap.size W w') := fun W h => sameLists_any a b sa sb W (ha.below h) (hb.below h) fa
  have E5 := hide (eqlN_run a.dst b.dst)
  have E6 := hide (eqlN_run a.src b.src)
  have E11 := hide (eqlH_run a.stop b.stop)
  have E12 := hide (eqlH_run a.hash b.hash)
  generalize eqL a b = bl at *
  clear ha hb fa
  go_enter Tryz.func10, Tryz.ntmps10
  have hgN : Tryz.prog.eqGuardType Tryz.prog.depth 27 = false := by kernel_rfl
  have hgH : Tryz.prog.eqGuardType Tryz.prog.depth 32 = false := by kernel_rfl
  have eW : (w.alloc (.cells (a.cells sa).toArray 38)).heap.size = w.heap.size + 1 := by simp
  have x0 := J0.out.x.f0
  have y0 := J0.out.y.f0
  have x1 := J0.out.x.f1
  have y1 := J0.out.y.f1
  have x2 := J0.out.x.f2
  have y2 := J0.out.y.f2
  have x3 := J0.out.x.f3
  have y3 := J0.out.y.f3
  have x4 := J0.out.x.f4
  have y4 := J0.out.y.f4
  have x5 := ldN_run _ J0.out.x.dst
  have y5 := ldN_run _ J0.out.y.dst
  rw [q5] at E5
  have z5 := E5.out
  have x6 := ldN_run _ J0.out.x.src
  have y6 := ldN_run _ J0.out.y.src
  rw [q6] at E6
  have z6 := E6.out
  have x7 := J0.out.x.f7
  have y7 := J0.out.y.f7
  go_upto_region 1 with (first | (with_reducible refine at_list ?_; first | refine wpList_boxA rfl _ rfl (a.cells sa).toArray rfl ?_ | refine wpList_boxA rfl _ rfl (b.cells sb).toArray rfl ?_))
  simp only [List.append]
  go_wp2_with (first | (with_reducible refine at_list ?_; first | refine wpList_boxA rfl _ rfl (a.cells sa).toArray rfl ?_ | refine wpList_boxA rfl _ rfl (b.cells sb).toArray rfl ?_))
  go_ret
  exact ⟨by simp, J0.out.bel⟩
end
end Go.Proofs.YtkoidjaaojmcnaaGreat
namespace Go.Proofs.YtkoidjaaojmcnaaGreat
open Go.RowKit
open Go.Deep
attribute [local go_sem ↓] ldN_eq ldH_eq eqlN_eq eqlH_eq ldM_eq
section
set_option maxRecDepth 10000
set_option maxHeartbeats 40000000
theorem same_8 (a b : Mg) (sa sb : Vs) (w : World) (ha : ML w sa a) (hb : ML w sb b) (fa : a.fit) (q0 : (a.kind == b.kind) = true) (q1 : ((a.vers.toNat : Int) == (b.vers.toNat : Int)) = true) (q2 : ((a.serv.toNat : Int) == (b.serv.toNat : Int)) = true) (q3 : ((a.nonce.toNat : Int) == (b.nonce.toNat : Int)) = true) (q4 : (a.time == b.time) = true) (q5 : (decide (a.dst = b.dst)) = true) (q6 : (decide (a.src = b.src)) = true) (q7 : (a.agent.toList == b.agent.toList) = true) (q8 : ((a.height.toNat : Int) == (b.height.toNat : Int)) = false) :
    Calls Tryz.prog 10 #[.agg (a.cells sa).toArray, .agg (b.cells sb).toArray] w fun e w' => e = .returned (.bool false) ∧ Below w.heap.size w w' := by
  have J0 := hide (Two.start 38 w a b sa sb)
  have HL : Hid (∀ W, Below w.heap.size w W → Calls Tryz.prog 30 #[.agg (a.cells sa).toArray, .agg (b.cells sb).toArray] W fun e w' => e = .returned (.bool (eqL a b)) ∧ Below W.heap.size W w') := fun W h => sameLists_any a b sa sb W (ha.below h) (hb.below h) fa
  have E5 := hide (eqlN_run a.dst b.dst)
  have E6 := hide (eqlN_run a.src b.src)
  have E11 := hide (eqlH_run a.stop b.stop)
  have E12 := hide (eqlH_run a.hash b.hash)
  generalize eqL a b = bl at *
  clear ha hb fa
  go_enter Tryz.func10, Tryz.ntmps10
  have hgN : Tryz.prog.eqGuardType Tryz.prog.depth 27 = false := by kernel_rfl
  have hgH : Tryz.prog.eqGuardType Tryz.prog.depth 32 = false := by kernel_rfl
  have eW : (w.alloc (.cells (a.cells sa).toArray 38)).heap.size = w.heap.size + 1 := by simp
  have x0 := J0.out.x.f0
  have y0 := J0.out.y.f0
  have x1 := J0.out.x.f1
  have y1 := J0.out.y.f1
  have x2 := J0.out.x.f2
  have y2 := J0.out.y.f2
  have x3 := J0.out.x.f3
  have y3 := J0.out.y.f3
  have x4 := J0.out.x.f4
  have y4 := J0.out.y.f4
  have x5 := ldN_run _ J0.out.x.dst
  have y5 := ldN_run _ J0.out.y.dst
  rw [q5] at E5
  have z5 := E5.out
  have x6 := ldN_run _ J0.out.x.src
  have y6 := ldN_run _ J0.out.y.src
  rw [q6] at E6
  have z6 := E6.out
  have x7 := J0.out.x.f7
  have y7 := J0.out.y.f7
  have x8 := J0.out.x.f8
  have y8 := J0.out.y.f8
  go_upto_region 1 with (first | (with_reducible refine at_list ?_; first | refine wpList_boxA rfl _ rfl (a.cells sa).toArray rfl ?_ | refine wpList_boxA rfl _ rfl (b.cells sb).toArray rfl ?_))
  simp only [List.append]
  go_wp2_with (first | (with_reducible refine at_list ?_; first | refine wpList_boxA rfl _ rfl (a.cells sa).toArray rfl ?_ | refine wpList_boxA rfl _ rfl (b.cells sb).toArray rfl ?_))
  go_ret
  exact ⟨by simp, J0.out.bel⟩
theorem same_9 (a b : Mg) (sa sb : Vs) (w : World) (ha : ML w sa a) (hb : ML w sb b) (fa : a.fit) (q0 : (a.kind == b.kind) = true) (q1 : ((a.vers.toNat : Int) == (b.vers.toNat : Int)) = true) (q2 : ((a.serv.toNat : Int) == (b.serv.toNat : Int)) = true) (q3 : ((a.nonce.toNat : Int) == (b.nonce.toNat : Int)) = true) (q4 : (a.time == b.time) = true) (q5 : (decide (a.dst = b.dst)) = true) (q6 : (decide (a.src = b.src)) = true) (q7 : (a.agent.toList == b.agent.toList) = true) (q8 : ((a.height.toNat : Int) == (b.height.toNat : Int)) = true) (q9 : (a.relay == b.relay) = false) :
    Calls Tryz.prog 10 #[.agg (a.cells sa).toArray, .agg (b.cells sb).toArray] w fun e w' => e = .returned (.bool false) ∧ Below w.heap.size w w' := by
  have J0 := hide (Two.start 38 w a b sa sb)
  have HL : Hid (∀ W, Below w.heap.size w W → Calls Tryz.prog 30 #[.agg (a.cells sa).toArray, .agg (b.cells sb).toArray] W fun e w' => e = .returned (.bool (eqL a b)) ∧ Below W.heap.size W w') := fun W h => sameLists_any a b sa sb W (ha.below h) (hb.below h) fa
  have E5 := hide (eqlN_run a.dst b.dst)
  have E6 := hide (eqlN_run a.src b.src)
  have E11 := hide (eqlH_run a.stop b.stop)
  have E12 := hide (eqlH_run a.hash b.hash)
  generalize eqL a b = bl at *
  clear ha hb fa
  go_enter Tryz.func10, Tryz.ntmps10
  have hgN : Tryz.prog.eqGuardType Tryz.prog.depth 27 = false := by kernel_rfl
  have hgH : Tryz.prog.eqGuardType Tryz.prog.depth 32 = false := by kernel_rfl
  have eW : (w.alloc (.cells (a.cells sa).toArray 38)).heap.size = w.heap.size + 1 := by simp
  have x0 := J0.out.x.f0
  have y0 := J0.out.y.f0
  have x1 := J0.out.x.f1
  have y1 := J0.out.y.f1
  have x2 := J0.out.x.f2
  have y2 := J0.out.y.f2
  have x3 := J0.out.x.f3
  have y3 := J0.out.y.f3
  have x4 := J0.out.x.f4
  have y4 := J0.out.y.f4
  have x5 := ldN_run _ J0.out.x.dst
  have y5 := ldN_run _ J0.out.y.dst
  rw [q5] at E5
  have z5 := E5.out
  have x6 := ldN_run _ J0.out.x.src
  have y6 := ldN_run _ J0.out.y.src
  rw [q6] at E6
  have z6 := E6.out
  have x7 := J0.out.x.f7
  have y7 := J0.out.y.f7
  have x8 := J0.out.x.f8
  have y8 := J0.out.y.f8
  have x9 := J0.out.x.f9
  have y9 := J0.out.y.f9
  go_upto_region 1 with (first | (with_reducible refine at_list ?_; first | refine wpList_boxA rfl _ rfl (a.cells sa).toArray rfl ?_ | refine wpList_boxA rfl _ rfl (b.cells sb).toArray rfl ?_))
  simp only [List.append]
  go_wp2_with (first | (with_reducible refine at_list ?_; first | refine wpList_boxA rfl _ rfl (a.cells sa).toArray rfl ?_ | refine wpList_boxA rfl _ rfl (b.cells sb).toArray rfl ?_))
  go_ret
  exact ⟨by simp, J0.out.bel⟩
end
end Go.Proofs.YtkoidjaaojmcnaaGreat
