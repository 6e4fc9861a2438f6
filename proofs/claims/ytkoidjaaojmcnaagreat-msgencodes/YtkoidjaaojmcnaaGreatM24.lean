/- The document's Same: its contract, by the first field that is another. The document's Same: its contract, by the first field that is another. -/
import Derived.Test.YtkoidjaaojmcnaaGreatM08
namespace Go.Proofs.YtkoidjaaojmcnaaGreat
open Go.RowKit
open Go.Deep
attribute [local go_sem ↓] ldNr_eq ldHr_eq neqNr_eq neqHr_eq
section
set_option maxRecDepth 10000
set_option maxHeartbeats 40000000
theorem rsame_12 (a b : Mg) (sa sb : Vs) (w : World) (q0 : (a.kind == b.kind) = true) (q1 : ((a.vers.toNat : Int) == (b.vers.toNat : Int)) = true) (q2 : ((a.serv.toNat : Int) == (b.serv.toNat : Int)) = true) (q3 : ((a.nonce.toNat : Int) == (b.nonce.toNat : Int)) = true) (q4 : (a.time == b.time) = true) (q5 : (decide (a.dst = b.dst)) = true) (q6 : (decide (a.src = b.src)) = true) (q7 : (a.agent.toList == b.agent.toList) = true) (q8 : ((a.height.toNat : Int) == (b.height.toNat : Int)) = true) (q9 : (a.relay == b.relay) = true) (q10 : (a.high == b.high) = true) (q11 : (decide (a.stop = b.stop)) = true) (q12 : (decide (a.hash = b.hash)) = false) :
    Calls Tryz.prog 12 #[.agg (a.cells sa).toArray, .agg (b.cells sb).toArray] w fun e w' => e = .returned (.bool false) ∧ Below w.heap.size w w' := by
  have J0 := hide (Two.start 50 w a b sa sb)
  go_enter Tryz.func12, Tryz.ntmps12
  have hgN : Tryz.prog.eqGuardType Tryz.prog.depth 44 = false := by kernel_rfl
  have hgH : Tryz.prog.eqGuardType Tryz.prog.depth 31 = false := by kernel_rfl
  have eW : (w.alloc (.cells (a.cells sa).toArray 50)).heap.size = w.heap.size + 1 := by simp
  have x0 := J0.out.x.f0
  have y0 := J0.out.y.f0
  have n0 : (a.kind != b.kind) = false := by rw [bne, q0]; rfl
  have x1 := J0.out.x.f1
  have y1 := J0.out.y.f1
  have n1 : ((a.vers.toNat : Int) != (b.vers.toNat : Int)) = false := by rw [bne, q1]; rfl
  have x2 := J0.out.x.f2
  have y2 := J0.out.y.f2
  have n2 : ((a.serv.toNat : Int) != (b.serv.toNat : Int)) = false := by rw [bne, q2]; rfl
  have x3 := J0.out.x.f3
  have y3 := J0.out.y.f3
  have n3 : ((a.nonce.toNat : Int) != (b.nonce.toNat : Int)) = false := by rw [bne, q3]; rfl
  have x4 := J0.out.x.f4
  have y4 := J0.out.y.f4
  have n4 : (a.time != b.time) = false := by rw [bne, q4]; rfl
  have x5 := ldNr_run _ J0.out.x.dst
  have y5 := ldNr_run _ J0.out.y.dst
  have z5 := neqNr_run a.dst b.dst
  rw [q5] at z5
  clear q5
  have x6 := ldNr_run _ J0.out.x.src
  have y6 := ldNr_run _ J0.out.y.src
  have z6 := neqNr_run a.src b.src
  rw [q6] at z6
  clear q6
  have x7 := J0.out.x.f7
  have y7 := J0.out.y.f7
  have x8 := J0.out.x.f8
  have y8 := J0.out.y.f8
  have n8 : ((a.height.toNat : Int) != (b.height.toNat : Int)) = false := by rw [bne, q8]; rfl
  have x9 := J0.out.x.f9
  have y9 := J0.out.y.f9
  have n9 : (a.relay != b.relay) = false := by rw [bne, q9]; rfl
  have x10 := J0.out.x.f10
  have y10 := J0.out.y.f10
  have n10 : (a.high != b.high) = false := by rw [bne, q10]; rfl
  have x11 := ldHr_run _ J0.out.x.stop
  have y11 := ldHr_run _ J0.out.y.stop
  have z11 := neqHr_run a.stop b.stop
  rw [q11] at z11
  clear q11
  have x12 := ldHr_run _ J0.out.x.hash
  have y12 := ldHr_run _ J0.out.y.hash
  have z12 := neqHr_run a.hash b.hash
  rw [q12] at z12
  clear q12
  go_upto_region 1 with (with_reducible refine at_list ?_; first | refine wpList_boxA rfl _ rfl (a.cells sa).toArray rfl ?_ | refine wpList_boxA rfl _ rfl (b.cells sb).toArray rfl ?_)
  simp only [List.append]
  go_wp2_with (with_reducible refine at_list ?_; first | refine wpList_boxA rfl _ rfl (a.cells sa).toArray rfl ?_ | refine wpList_boxA rfl _ rfl (b.cells sb).toArray rfl ?_)
  go_ret
  exact ⟨rfl, J0.out.bel⟩
theorem rsame_13 (a b : Mg) (sa sb : Vs) (w : World) (q0 : (a.kind == b.kind) = true) (q1 : ((a.vers.toNat : Int) == (b.vers.toNat : Int)) = true) (q2 : ((a.serv.toNat : Int) == (b.serv.toNat : Int)) = true) (q3 : ((a.nonce.toNat : Int) == (b.nonce.toNat : Int)) = true) (q4 : (a.time == b.time) = true) (q5 : (decide (a.dst = b.dst)) = true) (q6 : (decide (a.src = b.src)) = true) (q7 : (a.agent.toList == b.agent.toList) = true) (q8 : ((a.height.toNat : Int) == (b.height.toNat : Int)) = true) (q9 : (a.relay == b.relay) = true) (q10 : (a.high == b.high) = true) (q11 : (decide (a.stop = b.stop)) = true) (q12 : (decide (a.hash = b.hash)) = true) (q13 : (a.head.toList == b.head.toList) = false) :
    Calls Tryz.prog 12 #[.agg (a.cells sa).toArray, .agg (b.cells sb).toArray] w fun e w' => e = .returned (.bool false) ∧ Below w.heap.size w w' := by
  have J0 := hide (Two.start 50 w a b sa sb)
  go_enter Tryz.func12, Tryz.ntmps12
  have hgN : Tryz.prog.eqGuardType Tryz.prog.depth 44 = false := by kernel_rfl
  have hgH : Tryz.prog.eqGuardType Tryz.prog.depth 31 = false := by kernel_rfl
  have eW : (w.alloc (.cells (a.cells sa).toArray 50)).heap.size = w.heap.size + 1 := by simp
  have x0 := J0.out.x.f0
  have y0 := J0.out.y.f0
  have n0 : (a.kind != b.kind) = false := by rw [bne, q0]; rfl
  have x1 := J0.out.x.f1
  have y1 := J0.out.y.f1
  have n1 : ((a.vers.toNat : Int) != (b.vers.toNat : Int)) = false := by rw [bne, q1]; rfl
  have x2 := J0.out.x.f2
  have y2 := J0.out.y.f2
  have n2 : ((a.serv.toNat : Int) != (b.serv.toNat : Int)) = false := by rw [bne, q2]; rfl
  have x3 := J0.out.x.f3
  have y3 := J0.out.y.f3
  have n3 : ((a.nonce.toNat : Int) != (b.nonce.toNat : Int)) = false := by rw [bne, q3]; rfl
  have x4 := J0.out.x.f4
  have y4 := J0.out.y.f4
  have n4 : (a.time != b.time) = false := by rw [bne, q4]; rfl
  have x5 := ldNr_run _ J0.out.x.dst
  have y5 := ldNr_run _ J0.out.y.dst
  have z5 := neqNr_run a.dst b.dst
  rw [q5] at z5
  clear q5
  have x6 := ldNr_run _ J0.out.x.src
  have y6 := ldNr_run _ J0.out.y.src
  have z6 := neqNr_run a.src b.src
  rw [q6] at z6
  clear q6
  have x7 := J0.out.x.f7
  have y7 := J0.out.y.f7
  have x8 := J0.out.x.f8
  have y8 := J0.out.y.f8
  have n8 : ((a.height.toNat : Int) != (b.height.toNat : Int)) = false := by rw [bne, q8]; rfl
  have x9 := J0.out.x.f9
  have y9 := J0.out.y.f9
  have n9 : (a.relay != b.relay) = false := by rw [bne, q9]; rfl
  have x10 := J0.out.x.f10
  have y10 := J0.out.y.f10
  have n10 : (a.high != b.high) = false := by rw [bne, q10]; rfl
  have x11 := ldHr_run _ J0.out.x.stop
  have y11 := ldHr_run _ J0.out.y.stop
  have z11 := neqHr_run a.stop b.stop
  rw [q11] at z11
  clear q11
  have x12 := ldHr_run _ J0.out.x.hash
  have y12 := ldHr_run _ J0.out.y.hash
  have z12 := neqHr_run a.hash b.hash
  rw [q12] at z12
  clear q12
  have x13 := J0.out.x.f17
  have y13 := J0.out.y.f17
  go_upto_region 1 with (with_reducible refine at_list ?_; first | refine wpList_boxA rfl _ rfl (a.cells sa).toArray rfl ?_ | refine wpList_boxA rfl _ rfl (b.cells sb).toArray rfl ?_)
  simp only [List.append]
  go_wp2_with (with_reducible refine at_list ?_; first | refine wpList_boxA rfl _ rfl (a.cells sa).toArray rfl ?_ | refine wpList_boxA rfl _ rfl (b.cells sb).toArray rfl ?_)
  go_ret
  exact ⟨rfl, J0.out.bel⟩
end
end Go.Proofs.YtkoidjaaojmcnaaGreat
namespace Go.Proofs.YtkoidjaaojmcnaaGreat
open Go.RowKit
open Go.Deep
attribute [local go_sem ↓] ldNr_eq ldHr_eq neqNr_eq neqHr_eq
section
set_option maxRecDepth 10000
set_option maxHeartbeats 40000000
theorem rsame_14 (a b : Mg) (sa sb : Vs) (w : World) (q0 : (a.kind == b.kind) = true) (q1 : ((a.vers.toNat : Int) == (b.vers.toNat : Int)) = true) (q2 : ((a.serv.toNat : Int) == (b.serv.toNat : Int)) = true) (q3 : ((a.nonce.toNat : Int) == (b.nonce.toNat : Int)) = true) (q4 : (a.time == b.time) = true) (q5 : (decide (a.dst = b.dst)) = true) (q6 : (decide (a.src = b.src)) = true) (q7 : (a.agent.toList == b.agent.toList) = true) (q8 : ((a.height.toNat : Int) == (b.height.toNat : Int)) = true) (q9 : (a.relay == b.relay) = true) (q10 : (a.high == b.high) = true) (q11 : (decide (a.stop = b.stop)) = true) (q12 : (decide (a.hash = b.hash)) = true) (q13 : (a.head.toList == b.head.toList) = true) (q14 : (a.raw.toList == b.raw.toList) = false) :
    Calls Tryz.prog 12 #[.agg (a.cells sa).toArray, .agg (b.cells sb).toArray] w fun e w' => e = .returned (.bool false) ∧ Below w.heap.size w w' := by
  have J0 := hide (Two.start 50 w a b sa sb)
  go_enter Tryz.func12, Tryz.ntmps12
  have hgN : Tryz.prog.eqGuardType Tryz.prog.depth 44 = false := by kernel_rfl
  have hgH : Tryz.prog.eqGuardType Tryz.prog.depth 31 = false := by kernel_rfl
  have eW : (w.alloc (.cells (a.cells sa).toArray 50)).heap.size = w.heap.size + 1 := by simp
  have x0 := J0.out.x.f0
  have y0 := J0.out.y.f0
  have n0 : (a.kind != b.kind) = false := by rw [bne, q0]; rfl
  have x1 := J0.out.x.f1
  have y1 := J0.out.y.f1
  have n1 : ((a.vers.toNat : Int) != (b.vers.toNat : Int)) = false := by rw [bne, q1]; rfl
  have x2 := J0.out.x.f2
  have y2 := J0.out.y.f2
  have n2 : ((a.serv.toNat : Int) != (b.serv.toNat : Int)) = false := by rw [bne, q2]; rfl
  have x3 := J0.out.x.f3
  have y3 := J0.out.y.f3
  have n3 : ((a.nonce.toNat : Int) != (b.nonce.toNat : Int)) = false := by rw [bne, q3]; rfl
  have x4 := J0.out.x.f4
  have y4 := J0.out.y.f4
  have n4 : (a.time != b.time) = false := by rw [bne, q4]; rfl
  have x5 := ldNr_run _ J0.out.x.dst
  have y5 := ldNr_run _ J0.out.y.dst
  have z5 := neqNr_run a.dst b.dst
  rw [q5] at z5
  clear q5
  have x6 := ldNr_run _ J0.out.x.src
  have y6 := ldNr_run _ J0.out.y.src
  have z6 := neqNr_run a.src b.src
  rw [q6] at z6
  clear q6
  have x7 := J0.out.x.f7
  have y7 := J0.out.y.f7
  have x8 := J0.out.x.f8
  have y8 := J0.out.y.f8
  have n8 : ((a.height.toNat : Int) != (b.height.toNat : Int)) = false := by rw [bne, q8]; rfl
  have x9 := J0.out.x.f9
  have y9 := J0.out.y.f9
  have n9 : (a.relay != b.relay) = false := by rw [bne, q9]; rfl
  have x10 := J0.out.x.f10
  have y10 := J0.out.y.f10
  have n10 : (a.high != b.high) = false := by rw [bne, q10]; rfl
  have x11 := ldHr_run _ J0.out.x.stop
  have y11 := ldHr_run _ J0.out.y.stop
  have z11 := neqHr_run a.stop b.stop
  rw [q11] at z11
  clear q11
  have x12 := ldHr_run _ J0.out.x.hash
  have y12 := ldHr_run _ J0.out.y.hash
  have z12 := neqHr_run a.hash b.hash
  rw [q12] at z12
  clear q12
  have x13 := J0.out.x.f17
  have y13 := J0.out.y.f17
  have x14 := J0.out.x.f18
  have y14 := J0.out.y.f18
  go_upto_region 1 with (with_reducible refine at_list ?_; first | refine wpList_boxA rfl _ rfl (a.cells sa).toArray rfl ?_ | refine wpList_boxA rfl _ rfl (b.cells sb).toArray rfl ?_)
  simp only [List.append]
  go_wp2_with (with_reducible refine at_list ?_; first | refine wpList_boxA rfl _ rfl (a.cells sa).toArray rfl ?_ | refine wpList_boxA rfl _ rfl (b.cells sb).toArray rfl ?_)
  go_ret
  exact ⟨rfl, J0.out.bel⟩
end
end Go.Proofs.YtkoidjaaojmcnaaGreat
