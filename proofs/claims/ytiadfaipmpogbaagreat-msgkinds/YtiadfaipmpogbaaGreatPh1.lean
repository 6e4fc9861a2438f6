/- The document's Same: its contract, by the first field that is another. -/
import Derived.Test.YtiadfaipmpogbaaGreatPh0
namespace Go.Proofs.YtiadfaipmpogbaaGreat
open Go.RowKit
open Go.Deep
attribute [local go_sem ↓] ldNr_eq ldHr_eq neqNr_eq neqHr_eq
section
set_option maxRecDepth 10000
set_option maxHeartbeats 40000000
theorem rsame_0 (a b : Mg) (sa sb : Vs) (w : World) (q0 : (a.kind == b.kind) = false) :
    Calls Tryz.prog 15 #[.agg (a.cells sa).toArray, .agg (b.cells sb).toArray] w fun e w' => e = .returned (.bool false) ∧ Below w.heap.size w w' := by
  have J0 := hide (Two.start 50 w a b sa sb)
  go_enter Tryz.func15, Tryz.ntmps15
  have hgN : Tryz.prog.eqGuardType Tryz.prog.depth 44 = false := by kernel_rfl
  have hgH : Tryz.prog.eqGuardType Tryz.prog.depth 31 = false := by kernel_rfl
  have eW : (w.alloc (.cells (a.cells sa).toArray 50)).heap.size = w.heap.size + 1 := by simp
  have x0 := J0.out.x.f0
  have y0 := J0.out.y.f0
  have n0 : (a.kind != b.kind) = true := by rw [bne, q0]; rfl
  go_upto_region 1 with (with_reducible refine at_list ?_; first | refine wpList_boxA rfl _ rfl (a.cells sa).toArray rfl ?_ | refine wpList_boxA rfl _ rfl (b.cells sb).toArray rfl ?_)
  simp only [List.append]
  go_wp2_with (with_reducible refine at_list ?_; first | refine wpList_boxA rfl _ rfl (a.cells sa).toArray rfl ?_ | refine wpList_boxA rfl _ rfl (b.cells sb).toArray rfl ?_)
  go_ret
  exact ⟨rfl, J0.out.bel⟩
theorem rsame_1 (a b : Mg) (sa sb : Vs) (w : World) (q0 : (a.kind == b.kind) = true) (q1 : ((a.vers.toNat : Int) == (b.vers.toNat : Int)) = false) :
    Calls Tryz.prog 15 #[.agg (a.cells sa).toArray, .agg (b.cells sb).toArray] w fun e w' => e = .returned (.bool false) ∧ Below w.heap.size w w' := by
  have J0 := hide (Two.start 50 w a b sa sb)
  go_enter Tryz.func15, Tryz.ntmps15
  have hgN : Tryz.prog.eqGuardType Tryz.prog.depth 44 = false := by kernel_rfl
  have hgH : Tryz.prog.eqGuardType Tryz.prog.depth 31 = false := by kernel_rfl
  have eW : (w.alloc (.cells (a.cells sa).toArray 50)).heap.size = w.heap.size + 1 := by simp
  have x0 := J0.out.x.f0
  have y0 := J0.out.y.f0
  have n0 : (a.kind != b.kind) = false := by rw [bne, q0]; rfl
  have x1 := J0.out.x.f1
  have y1 := J0.out.y.f1
  have n1 : ((a.vers.toNat : Int) != (b.vers.toNat : Int)) = true := by rw [bne, q1]; rfl
  go_upto_region 1 with (with_reducible refine at_list ?_; first | refine wpList_boxA rfl _ rfl (a.cells sa).toArray rfl ?_ | refine wpList_boxA rfl _ rfl (b.cells sb).toArray rfl ?_)
  simp only [List.append]
  go_wp2_with (with_reducible refine at_list ?_; first | refine wpList_boxA rfl _ rfl (a.cells sa).toArray rfl ?_ | refine wpList_boxA rfl _ rfl (b.cells sb).toArray rfl ?_)
  go_ret
  exact ⟨rfl, J0.out.bel⟩
theorem rsame_2 (a b : Mg) (sa sb : Vs) (w : World) (q0 : (a.kind == b.kind) = true) (q1 : ((a.vers.toNat : Int) == (b.vers.toNat : Int)) = true) (q2 : ((a.serv.toNat : Int) == (b.serv.toNat : Int)) = false) :
    Calls Tryz.prog 15 #[.agg (a.cells sa).toArray, .agg (b.cells sb).toArray] w fun e w' => e = .returned (.bool false) ∧ Below w.heap.size w w' := by
  have J0 := hide (Two.start 50 w a b sa sb)
  go_enter Tryz.func15, Tryz.ntmps15
  have hgN : Tryz.prog.eqGuardType Tryz.prog.depth 44 = false := by kernel_rfl
  have hgH : Tryz.prog.eqGuardType Tryz.prog.depth 31 = false := by kernel_rfl
  have eW : (w.alloc (.cells (a.cells sa).toArray 50)).heap.size = w.heap.size + 1 := by simp
  have x0 := J0.out.x.f0
  have y0 := J0.out.y.f0
  have n0 : (a.kind != b.kind) = false := by rw [bne, q0]; rfl
  have x1 := J0.out.x.f1
  have y1 := J0.out.y.f1
  have n1 : ((a.vers.toNat : Int) != (b.vers.toNat : Int)) = false := by rw [bne, q1]; rfl
  have x2 := J0.out.x.f2
  have y2 := J0.out.y.f2
  have n2 : ((a.serv.toNat : Int) != (b.serv.toNat : Int)) = true := by rw [bne, q2]; rfl
  go_upto_region 1 with (with_reducible refine at_list ?_; first | refine wpList_boxA rfl _ rfl (a.cells sa).toArray rfl ?_ | refine wpList_boxA rfl _ rfl (b.cells sb).toArray rfl ?_)
  simp only [List.append]
  go_wp2_with (with_reducible refine at_list ?_; first | refine wpList_boxA rfl _ rfl (a.cells sa).toArray rfl ?_ | refine wpList_boxA rfl _ rfl (b.cells sb).toArray rfl ?_)
  go_ret
  exact ⟨rfl, J0.out.bel⟩
theorem rsame_3 (a b : Mg) (sa sb : Vs) (w : World) (q0 : (a.kind == b.kind) = true) (q1 : ((a.vers.toNat : Int) == (b.vers.toNat : Int)) = true) (q2 : ((a.serv.toNat : Int) == (b.serv.toNat : Int)) = true) (q3 : ((a.nonce.toNat : Int) == (b.nonce.toNat : Int)) = false) :
    Calls Tryz.prog 15 #[.agg (a.cells sa).toArray, .agg (b.cells sb).toArray] w fun e w' => e = .returned (.bool false) ∧ Below w.heap.size w w' := by
  have J0 := hide (Two.start 50 w a b sa sb)
  go_enter Tryz.func15, Tryz.ntmps15
  have hgN : Tryz.prog.eqGuardType Tryz.prog.depth 44 = false := by kernel_rfl
  have hgH : Tryz.prog.eqGuardType Tryz.prog.depth 31 = false := by kernel_rfl
  have eW : (w.alloc (.cells (a.cells sa).toArray 50)).heap.size = w.heap.size + 1 := by simp
  have x0 := J0.out.x.f0
  have y0 := J0.out.y.f0
  have n0 : (a.kind != b.kind) = false := by rw [bne, q0]; rfl
  have x1 := J0.out.x.f1
  have y1 := J0.out.y.f1
  have n1 : ((a.vers.toNat : Int) != (b.vers.toNat : Int)) = false := by rw [bne, q1]; rfl
  have x2 := J0.out.x.f2
  have y2 := J0.out.y.f2
  have n2 : ((a.serv.toNat : Int) != (b.serv.toNat : Int)) = false := by rw [bne, q2]; rfl
  have x3 := J0.out.x.f3
  have y3 := J0.out.y.f3
  have n3 : ((a.nonce.toNat : Int) != (b.nonce.toNat : Int)) = true := by rw [bne, q3]; rfl
  go_upto_region 1 with (with_reducible refine at_list ?_; first | refine wpList_boxA rfl _ rfl (a.cells sa).toArray rfl ?_ | refine wpList_boxA rfl _ rfl (b.cells sb).toArray rfl ?_)
  simp only [List.append]
  go_wp2_with (with_reducible refine at_list ?_; first | refine wpList_boxA rfl _ rfl (a.cells sa).toArray rfl ?_ | refine wpList_boxA rfl _ rfl (b.cells sb).toArray rfl ?_)
  go_ret
  exact ⟨rfl, J0.out.bel⟩
end
end Go.Proofs.YtiadfaipmpogbaaGreat
