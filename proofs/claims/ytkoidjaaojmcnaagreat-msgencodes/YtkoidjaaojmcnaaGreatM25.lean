/- The document's Same: its contract where no field but the lists is another. -/
import Derived.Test.YtkoidjaaojmcnaaGreatM08
namespace Go.Proofs.YtkoidjaaojmcnaaGreat
open Go.RowKit
open Go.Deep
attribute [local go_sem ↓] ldNr_eq ldHr_eq neqNr_eq neqHr_eq
section
set_option maxRecDepth 10000
set_option maxHeartbeats 400000000
set_option linter.unusedSimpArgs false
theorem rsame_15 (a b : Mg) (sa sb : Vs) (w : World) (ha : MR w sa a) (hb : MR w sb b) (fa : a.fit) (q0 : (a.kind == b.kind) = true) (q1 : ((a.vers.toNat : Int) == (b.vers.toNat : Int)) = true) (q2 : ((a.serv.toNat : Int) == (b.serv.toNat : Int)) = true) (q3 : ((a.nonce.toNat : Int) == (b.nonce.toNat : Int)) = true) (q4 : (a.time == b.time) = true) (q5 : (decide (a.dst = b.dst)) = true) (q6 : (decide (a.src = b.src)) = true) (q7 : (a.agent.toList == b.agent.toList) = true) (q8 : ((a.height.toNat : Int) == (b.height.toNat : Int)) = true) (q9 : (a.relay == b.relay) = true) (q10 : (a.high == b.high) = true) (q11 : (decide (a.stop = b.stop)) = true) (q12 : (decide (a.hash = b.hash)) = true) (q13 : (a.head.toList == b.head.toList) = true) (q14 : (a.raw.toList == b.raw.toList) = true) :
    Calls Tryz.prog 12 #[.agg (a.cells sa).toArray, .agg (b.cells sb).toArray] w fun e w' => e = .returned (.bool (eqL a b)) ∧ Below w.heap.size w w' := by
  have J0 := hide (Two.start 50 w a b sa sb)
  obtain ⟨r, hr⟩ : ∃ r : Bool, r = eqL a b := ⟨_, rfl⟩
  have HR := hide hr
  rw [← hr]
  clear hr

  have HX := hide (And.intro ha (And.intro hb fa))
  clear ha hb fa
  go_enter Tryz.func12, Tryz.ntmps12
  have hgN : Tryz.prog.eqGuardType Tryz.prog.depth 44 = false := by kernel_rfl
  have hgH : Tryz.prog.eqGuardType Tryz.prog.depth 31 = false := by kernel_rfl
  have eW : (w.alloc (.cells (a.cells sa).toArray 50)).heap.size = w.heap.size + 1 := by simp
  have x0 := J0.out.x.f0
  have y0 := J0.out.y.f0
  have n0 : (a.kind != b.kind) = false := by rw [bne, q0]; rfl
  have x1 := J0.out.x.f1
  have y1 := J0.out.y.f1
  have n1 : ((a.vers.toNat : Int) != (b.vers.toNat : Int)) = false := by rw [bne, q1]; rfl
  have x2 := J0.out.x.f2
  have y2 := J0.out.y.f2
  have n2 : ((a.serv.toNat : Int) != (b.serv.toNat : Int)) = false := by rw [bne, q2]; rfl
  have x3 := J0.out.x.f3
  have y3 := J0.out.y.f3
  have n3 : ((a.nonce.toNat : Int) != (b.nonce.toNat : Int)) = false := by rw [bne, q3]; rfl
  have x4 := J0.out.x.f4
  have y4 := J0.out.y.f4
  have n4 : (a.time != b.time) = false := by rw [bne, q4]; rfl
  have x5 := ldNr_run _ J0.out.x.dst
  have y5 := ldNr_run _ J0.out.y.dst
  have z5 := neqNr_run a.dst b.dst
  rw [q5] at z5
  clear q5
  have x6 := ldNr_run _ J0.out.x.src
  have y6 := ldNr_run _ J0.out.y.src
  have z6 := neqNr_run a.src b.src
  rw [q6] at z6
  clear q6
  have x7 := J0.out.x.f7
  have y7 := J0.out.y.f7
  have x8 := J0.out.x.f8
  have y8 := J0.out.y.f8
  have n8 : ((a.height.toNat : Int) != (b.height.toNat : Int)) = false := by rw [bne, q8]; rfl
  have x9 := J0.out.x.f9
  have y9 := J0.out.y.f9
  have n9 : (a.relay != b.relay) = false := by rw [bne, q9]; rfl
  have x10 := J0.out.x.f10
  have y10 := J0.out.y.f10
  have n10 : (a.high != b.high) = false := by rw [bne, q10]; rfl
  have x11 := ldHr_run _ J0.out.x.stop
  have y11 := ldHr_run _ J0.out.y.stop
  have z11 := neqHr_run a.stop b.stop
  rw [q11] at z11
  clear q11
  have x12 := ldHr_run _ J0.out.x.hash
  have y12 := ldHr_run _ J0.out.y.hash
  have z12 := neqHr_run a.hash b.hash
  rw [q12] at z12
  clear q12
  have x13 := J0.out.x.f17
  have y13 := J0.out.y.f17
  have x14 := J0.out.x.f18
  have y14 := J0.out.y.f18
  go_upto_region 3 with (with_reducible refine at_list ?_; first | refine wpList_boxA rfl _ rfl (a.cells sa).toArray rfl ?_ | refine wpList_boxA rfl _ rfl (b.cells sb).toArray rfl ?_)
  clear hgN hgH eW x0 y0 x1 y1 x2 y2 x3 y3 x4 y4 x5 y5 x6 y6 x7 y7 x8 y8 x9 y9 x10 y10 x11 y11 x12 y12 x13 y13 x14 y14 q0 q1 q2 q3 q4 q7 q8 q9 q10 q13 q14 n0 n1 n2 n3 n4 n8 n9 n10 z5 z6 z11 z12
  generalize (w.alloc (.cells (a.cells sa).toArray 50)).alloc (.cells (b.cells sb).toArray 50) = W0 at *
  generalize hgh : w.heap.size + 1 = gh at *
  clear hgh
  simp only [List.append]
  by_cases hl0 : a.addrs.length = b.addrs.length
  case' neg =>
    have hne : ¬ a.addrs = b.addrs := fun h => hl0 (by rw [h])
    have hr : r = false := by
      rw [HR.out]
      unfold eqL
      rw [decide_eq_false hne]
      simp only [Bool.and_false, Bool.false_and]
    subst hr
    obtain ⟨aa0, ca0, ea0⟩ := HX.out.1.a.form
    obtain ⟨ab0, cb0, eb0⟩ := HX.out.2.1.a.form
    have x0 := J0.out.x.f11
    have y0 := J0.out.y.f11
    rw [ea0] at x0
    rw [eb0] at y0
    have n0 : ((a.addrs.length : Int) != (b.addrs.length : Int)) = true := by rw [bne_iff_ne]; omega
    clear ea0 eb0
    clear hne hl0 HX HR 
    go_wp2
    go_ret
    exact ⟨rfl, J0.out.bel⟩
  have HL0 := hide hl0
  clear hl0
  by_cases hl1 : a.items.length = b.items.length
  case' neg =>
    have hne : ¬ a.items = b.items := fun h => hl1 (by rw [h])
    have hr : r = false := by
      rw [HR.out]
      unfold eqL
      rw [decide_eq_false hne]
      simp only [Bool.and_false, Bool.false_and]
    subst hr
    obtain ⟨aa0, ca0, ea0⟩ := HX.out.1.a.form
    obtain ⟨ab0, cb0, eb0⟩ := HX.out.2.1.a.form
    have x0 := J0.out.x.f11
    have y0 := J0.out.y.f11
    rw [ea0] at x0
    rw [eb0] at y0
    have n0 : ((a.addrs.length : Int) != (b.addrs.length : Int)) = false := by rw [HL0.out]; simp
    clear ea0 eb0
    obtain ⟨aa1, ca1, ea1⟩ := HX.out.1.i.form
    obtain ⟨ab1, cb1, eb1⟩ := HX.out.2.1.i.form
    have x1 := J0.out.x.f12
    have y1 := J0.out.y.f12
    rw [ea1] at x1
    rw [eb1] at y1
    have n1 : ((a.items.length : Int) != (b.items.length : Int)) = true := by rw [bne_iff_ne]; omega
    clear ea1 eb1
    clear hne hl1 HX HR HL0
    go_wp2
    go_ret
    exact ⟨rfl, J0.out.bel⟩
  have HL1 := hide hl1
  clear hl1
  by_cases hl2 : a.hashes.length = b.hashes.length
  case' neg =>
    have hne : ¬ a.hashes = b.hashes := fun h => hl2 (by rw [h])
    have hr : r = false := by
      rw [HR.out]
      unfold eqL
      rw [decide_eq_false hne]
      simp only [Bool.and_false, Bool.false_and]
    subst hr
    obtain ⟨aa0, ca0, ea0⟩ := HX.out.1.a.form
    obtain ⟨ab0, cb0, eb0⟩ := HX.out.2.1.a.form
    have x0 := J0.out.x.f11
    have y0 := J0.out.y.f11
    rw [ea0] at x0
    rw [eb0] at y0
    have n0 : ((a.addrs.length : Int) != (b.addrs.length : Int)) = false := by rw [HL0.out]; simp
    clear ea0 eb0
    obtain ⟨aa1, ca1, ea1⟩ := HX.out.1.i.form
    obtain ⟨ab1, cb1, eb1⟩ := HX.out.2.1.i.form
    have x1 := J0.out.x.f12
    have y1 := J0.out.y.f12
    rw [ea1] at x1
    rw [eb1] at y1
    have n1 : ((a.items.length : Int) != (b.items.length : Int)) = false := by rw [HL1.out]; simp
    clear ea1 eb1
    obtain ⟨aa2, ca2, ea2⟩ := HX.out.1.h.form
    obtain ⟨ab2, cb2, eb2⟩ := HX.out.2.1.h.form
    have x2 := J0.out.x.f13
    have y2 := J0.out.y.f13
    rw [ea2] at x2
    rw [eb2] at y2
    have n2 : ((a.hashes.length : Int) != (b.hashes.length : Int)) = true := by rw [bne_iff_ne]; omega
    clear ea2 eb2
    clear hne hl2 HX HR HL0 HL1
    go_wp2
    go_ret
    exact ⟨rfl, J0.out.bel⟩
  have HL2 := hide hl2
  clear hl2
  by_cases hl3 : a.heads.length = b.heads.length
  case' neg =>
    have hne : ¬ a.heads = b.heads := fun h => hl3 (by rw [h])
    have hr : r = false := by
      rw [HR.out]
      unfold eqL
      rw [decide_eq_false hne]
      simp only [Bool.and_false, Bool.false_and]
    subst hr
    obtain ⟨aa0, ca0, ea0⟩ := HX.out.1.a.form
    obtain ⟨ab0, cb0, eb0⟩ := HX.out.2.1.a.form
    have x0 := J0.out.x.f11
    have y0 := J0.out.y.f11
    rw [ea0] at x0
    rw [eb0] at y0
    have n0 : ((a.addrs.length : Int) != (b.addrs.length : Int)) = false := by rw [HL0.out]; simp
    clear ea0 eb0
    obtain ⟨aa1, ca1, ea1⟩ := HX.out.1.i.form
    obtain ⟨ab1, cb1, eb1⟩ := HX.out.2.1.i.form
    have x1 := J0.out.x.f12
    have y1 := J0.out.y.f12
    rw [ea1] at x1
    rw [eb1] at y1
    have n1 : ((a.items.length : Int) != (b.items.length : Int)) = false := by rw [HL1.out]; simp
    clear ea1 eb1
    obtain ⟨aa2, ca2, ea2⟩ := HX.out.1.h.form
    obtain ⟨ab2, cb2, eb2⟩ := HX.out.2.1.h.form
    have x2 := J0.out.x.f13
    have y2 := J0.out.y.f13
    rw [ea2] at x2
    rw [eb2] at y2
    have n2 : ((a.hashes.length : Int) != (b.hashes.length : Int)) = false := by rw [HL2.out]; simp
    clear ea2 eb2
    obtain ⟨aa3, ca3, ea3⟩ := HX.out.1.hd.form
    obtain ⟨ab3, cb3, eb3⟩ := HX.out.2.1.hd.form
    have x3 := J0.out.x.f16
    have y3 := J0.out.y.f16
    rw [ea3] at x3
    rw [eb3] at y3
    have n3 : ((a.heads.length : Int) != (b.heads.length : Int)) = true := by rw [bne_iff_ne]; omega
    clear ea3 eb3
    clear hne hl3 HX HR HL0 HL1 HL2
    go_wp2
    go_ret
    exact ⟨rfl, J0.out.bel⟩
  have HL3 := hide hl3
  clear hl3
  by_cases hl4 : a.shorts.length = b.shorts.length
  case' neg =>
    have hne : ¬ a.shorts = b.shorts := fun h => hl4 (by rw [h])
    have hr : r = false := by
      rw [HR.out]
      unfold eqL
      rw [decide_eq_false hne]
      simp only [Bool.and_false, Bool.false_and]
    subst hr
    obtain ⟨aa0, ca0, ea0⟩ := HX.out.1.a.form
    obtain ⟨ab0, cb0, eb0⟩ := HX.out.2.1.a.form
    have x0 := J0.out.x.f11
    have y0 := J0.out.y.f11
    rw [ea0] at x0
    rw [eb0] at y0
    have n0 : ((a.addrs.length : Int) != (b.addrs.length : Int)) = false := by rw [HL0.out]; simp
    clear ea0 eb0
    obtain ⟨aa1, ca1, ea1⟩ := HX.out.1.i.form
    obtain ⟨ab1, cb1, eb1⟩ := HX.out.2.1.i.form
    have x1 := J0.out.x.f12
    have y1 := J0.out.y.f12
    rw [ea1] at x1
    rw [eb1] at y1
    have n1 : ((a.items.length : Int) != (b.items.length : Int)) = false := by rw [HL1.out]; simp
    clear ea1 eb1
    obtain ⟨aa2, ca2, ea2⟩ := HX.out.1.h.form
    obtain ⟨ab2, cb2, eb2⟩ := HX.out.2.1.h.form
    have x2 := J0.out.x.f13
    have y2 := J0.out.y.f13
    rw [ea2] at x2
    rw [eb2] at y2
    have n2 : ((a.hashes.length : Int) != (b.hashes.length : Int)) = false := by rw [HL2.out]; simp
    clear ea2 eb2
    obtain ⟨aa3, ca3, ea3⟩ := HX.out.1.hd.form
    obtain ⟨ab3, cb3, eb3⟩ := HX.out.2.1.hd.form
    have x3 := J0.out.x.f16
    have y3 := J0.out.y.f16
    rw [ea3] at x3
    rw [eb3] at y3
    have n3 : ((a.heads.length : Int) != (b.heads.length : Int)) = false := by rw [HL3.out]; simp
    clear ea3 eb3
    obtain ⟨aa4, ca4, ea4⟩ := HX.out.1.sh.form
    obtain ⟨ab4, cb4, eb4⟩ := HX.out.2.1.sh.form
    have x4 := J0.out.x.f19
    have y4 := J0.out.y.f19
    rw [ea4] at x4
    rw [eb4] at y4
    have n4 : ((a.shorts.length : Int) != (b.shorts.length : Int)) = true := by rw [bne_iff_ne]; omega
    clear ea4 eb4
    clear hne hl4 HX HR HL0 HL1 HL2 HL3
    go_wp2
    go_ret
    exact ⟨rfl, J0.out.bel⟩
  have HL4 := hide hl4
  clear hl4
  by_cases hl5 : a.filled.length = b.filled.length
  case' neg =>
    have hne : ¬ a.filled = b.filled := fun h => hl5 (by rw [h])
    have hr : r = false := by
      rw [HR.out]
      unfold eqL
      rw [decide_eq_false hne]
      simp only [Bool.and_false, Bool.false_and]
    subst hr
    obtain ⟨aa0, ca0, ea0⟩ := HX.out.1.a.form
    obtain ⟨ab0, cb0, eb0⟩ := HX.out.2.1.a.form
    have x0 := J0.out.x.f11
    have y0 := J0.out.y.f11
    rw [ea0] at x0
    rw [eb0] at y0
    have n0 : ((a.addrs.length : Int) != (b.addrs.length : Int)) = false := by rw [HL0.out]; simp
    clear ea0 eb0
    obtain ⟨aa1, ca1, ea1⟩ := HX.out.1.i.form
    obtain ⟨ab1, cb1, eb1⟩ := HX.out.2.1.i.form
    have x1 := J0.out.x.f12
    have y1 := J0.out.y.f12
    rw [ea1] at x1
    rw [eb1] at y1
    have n1 : ((a.items.length : Int) != (b.items.length : Int)) = false := by rw [HL1.out]; simp
    clear ea1 eb1
    obtain ⟨aa2, ca2, ea2⟩ := HX.out.1.h.form
    obtain ⟨ab2, cb2, eb2⟩ := HX.out.2.1.h.form
    have x2 := J0.out.x.f13
    have y2 := J0.out.y.f13
    rw [ea2] at x2
    rw [eb2] at y2
    have n2 : ((a.hashes.length : Int) != (b.hashes.length : Int)) = false := by rw [HL2.out]; simp
    clear ea2 eb2
    obtain ⟨aa3, ca3, ea3⟩ := HX.out.1.hd.form
    obtain ⟨ab3, cb3, eb3⟩ := HX.out.2.1.hd.form
    have x3 := J0.out.x.f16
    have y3 := J0.out.y.f16
    rw [ea3] at x3
    rw [eb3] at y3
    have n3 : ((a.heads.length : Int) != (b.heads.length : Int)) = false := by rw [HL3.out]; simp
    clear ea3 eb3
    obtain ⟨aa4, ca4, ea4⟩ := HX.out.1.sh.form
    obtain ⟨ab4, cb4, eb4⟩ := HX.out.2.1.sh.form
    have x4 := J0.out.x.f19
    have y4 := J0.out.y.f19
    rw [ea4] at x4
    rw [eb4] at y4
    have n4 : ((a.shorts.length : Int) != (b.shorts.length : Int)) = false := by rw [HL4.out]; simp
    clear ea4 eb4
    obtain ⟨aa5, ca5, ea5⟩ := HX.out.1.f.form
    obtain ⟨ab5, cb5, eb5⟩ := HX.out.2.1.f.form
    have x5 := J0.out.x.f20
    have y5 := J0.out.y.f20
    rw [ea5] at x5
    rw [eb5] at y5
    have n5 : ((a.filled.length : Int) != (b.filled.length : Int)) = true := by rw [bne_iff_ne]; omega
    clear ea5 eb5
    clear hne hl5 HX HR HL0 HL1 HL2 HL3 HL4
    go_wp2
    go_ret
    exact ⟨rfl, J0.out.bel⟩
  have HL5 := hide hl5
  clear hl5
  by_cases hl6 : a.places.length = b.places.length
  case' neg =>
    have hne : ¬ a.places = b.places := fun h => hl6 (by rw [h])
    have hr : r = false := by
      rw [HR.out]
      unfold eqL
      rw [decide_eq_false hne]
      simp only [Bool.and_false, Bool.false_and]
    subst hr
    obtain ⟨aa0, ca0, ea0⟩ := HX.out.1.a.form
    obtain ⟨ab0, cb0, eb0⟩ := HX.out.2.1.a.form
    have x0 := J0.out.x.f11
    have y0 := J0.out.y.f11
    rw [ea0] at x0
    rw [eb0] at y0
    have n0 : ((a.addrs.length : Int) != (b.addrs.length : Int)) = false := by rw [HL0.out]; simp
    clear ea0 eb0
    obtain ⟨aa1, ca1, ea1⟩ := HX.out.1.i.form
    obtain ⟨ab1, cb1, eb1⟩ := HX.out.2.1.i.form
    have x1 := J0.out.x.f12
    have y1 := J0.out.y.f12
    rw [ea1] at x1
    rw [eb1] at y1
    have n1 : ((a.items.length : Int) != (b.items.length : Int)) = false := by rw [HL1.out]; simp
    clear ea1 eb1
    obtain ⟨aa2, ca2, ea2⟩ := HX.out.1.h.form
    obtain ⟨ab2, cb2, eb2⟩ := HX.out.2.1.h.form
    have x2 := J0.out.x.f13
    have y2 := J0.out.y.f13
    rw [ea2] at x2
    rw [eb2] at y2
    have n2 : ((a.hashes.length : Int) != (b.hashes.length : Int)) = false := by rw [HL2.out]; simp
    clear ea2 eb2
    obtain ⟨aa3, ca3, ea3⟩ := HX.out.1.hd.form
    obtain ⟨ab3, cb3, eb3⟩ := HX.out.2.1.hd.form
    have x3 := J0.out.x.f16
    have y3 := J0.out.y.f16
    rw [ea3] at x3
    rw [eb3] at y3
    have n3 : ((a.heads.length : Int) != (b.heads.length : Int)) = false := by rw [HL3.out]; simp
    clear ea3 eb3
    obtain ⟨aa4, ca4, ea4⟩ := HX.out.1.sh.form
    obtain ⟨ab4, cb4, eb4⟩ := HX.out.2.1.sh.form
    have x4 := J0.out.x.f19
    have y4 := J0.out.y.f19
    rw [ea4] at x4
    rw [eb4] at y4
    have n4 : ((a.shorts.length : Int) != (b.shorts.length : Int)) = false := by rw [HL4.out]; simp
    clear ea4 eb4
    obtain ⟨aa5, ca5, ea5⟩ := HX.out.1.f.form
    obtain ⟨ab5, cb5, eb5⟩ := HX.out.2.1.f.form
    have x5 := J0.out.x.f20
    have y5 := J0.out.y.f20
    rw [ea5] at x5
    rw [eb5] at y5
    have n5 : ((a.filled.length : Int) != (b.filled.length : Int)) = false := by rw [HL5.out]; simp
    clear ea5 eb5
    obtain ⟨aa6, ca6, ea6⟩ := HX.out.1.p.form
    obtain ⟨ab6, cb6, eb6⟩ := HX.out.2.1.p.form
    have x6 := J0.out.x.f21
    have y6 := J0.out.y.f21
    rw [ea6] at x6
    rw [eb6] at y6
    have n6 : ((a.places.length : Int) != (b.places.length : Int)) = true := by rw [bne_iff_ne]; omega
    clear ea6 eb6
    clear hne hl6 HX HR HL0 HL1 HL2 HL3 HL4 HL5
    go_wp2
    go_ret
    exact ⟨rfl, J0.out.bel⟩
  have HL6 := hide hl6
  clear hl6
  by_cases hl7 : a.raws.length = b.raws.length
  case' neg =>
    have hne : ¬ a.raws = b.raws := fun h => hl7 (by rw [h])
    have hr : r = false := by
      rw [HR.out]
      unfold eqL
      rw [decide_eq_false hne]
      simp only [Bool.and_false, Bool.false_and]
    subst hr
    obtain ⟨aa0, ca0, ea0⟩ := HX.out.1.a.form
    obtain ⟨ab0, cb0, eb0⟩ := HX.out.2.1.a.form
    have x0 := J0.out.x.f11
    have y0 := J0.out.y.f11
    rw [ea0] at x0
    rw [eb0] at y0
    have n0 : ((a.addrs.length : Int) != (b.addrs.length : Int)) = false := by rw [HL0.out]; simp
    clear ea0 eb0
    obtain ⟨aa1, ca1, ea1⟩ := HX.out.1.i.form
    obtain ⟨ab1, cb1, eb1⟩ := HX.out.2.1.i.form
    have x1 := J0.out.x.f12
    have y1 := J0.out.y.f12
    rw [ea1] at x1
    rw [eb1] at y1
    have n1 : ((a.items.length : Int) != (b.items.length : Int)) = false := by rw [HL1.out]; simp
    clear ea1 eb1
    obtain ⟨aa2, ca2, ea2⟩ := HX.out.1.h.form
    obtain ⟨ab2, cb2, eb2⟩ := HX.out.2.1.h.form
    have x2 := J0.out.x.f13
    have y2 := J0.out.y.f13
    rw [ea2] at x2
    rw [eb2] at y2
    have n2 : ((a.hashes.length : Int) != (b.hashes.length : Int)) = false := by rw [HL2.out]; simp
    clear ea2 eb2
    obtain ⟨aa3, ca3, ea3⟩ := HX.out.1.hd.form
    obtain ⟨ab3, cb3, eb3⟩ := HX.out.2.1.hd.form
    have x3 := J0.out.x.f16
    have y3 := J0.out.y.f16
    rw [ea3] at x3
    rw [eb3] at y3
    have n3 : ((a.heads.length : Int) != (b.heads.length : Int)) = false := by rw [HL3.out]; simp
    clear ea3 eb3
    obtain ⟨aa4, ca4, ea4⟩ := HX.out.1.sh.form
    obtain ⟨ab4, cb4, eb4⟩ := HX.out.2.1.sh.form
    have x4 := J0.out.x.f19
    have y4 := J0.out.y.f19
    rw [ea4] at x4
    rw [eb4] at y4
    have n4 : ((a.shorts.length : Int) != (b.shorts.length : Int)) = false := by rw [HL4.out]; simp
    clear ea4 eb4
    obtain ⟨aa5, ca5, ea5⟩ := HX.out.1.f.form
    obtain ⟨ab5, cb5, eb5⟩ := HX.out.2.1.f.form
    have x5 := J0.out.x.f20
    have y5 := J0.out.y.f20
    rw [ea5] at x5
    rw [eb5] at y5
    have n5 : ((a.filled.length : Int) != (b.filled.length : Int)) = false := by rw [HL5.out]; simp
    clear ea5 eb5
    obtain ⟨aa6, ca6, ea6⟩ := HX.out.1.p.form
    obtain ⟨ab6, cb6, eb6⟩ := HX.out.2.1.p.form
    have x6 := J0.out.x.f21
    have y6 := J0.out.y.f21
    rw [ea6] at x6
    rw [eb6] at y6
    have n6 : ((a.places.length : Int) != (b.places.length : Int)) = false := by rw [HL6.out]; simp
    clear ea6 eb6
    obtain ⟨aa7, ca7, ea7⟩ := HX.out.1.r.form
    obtain ⟨ab7, cb7, eb7⟩ := HX.out.2.1.r.form
    have x7 := J0.out.x.f22
    have y7 := J0.out.y.f22
    rw [ea7] at x7
    rw [eb7] at y7
    have n7 : ((a.raws.length : Int) != (b.raws.length : Int)) = true := by rw [bne_iff_ne]; omega
    clear ea7 eb7
    clear hne hl7 HX HR HL0 HL1 HL2 HL3 HL4 HL5 HL6
    go_wp2
    go_ret
    exact ⟨rfl, J0.out.bel⟩
  have HL7 := hide hl7
  clear hl7
  obtain ⟨aa0, ca0, ea0⟩ := HX.out.1.a.form
  obtain ⟨ab0, cb0, eb0⟩ := HX.out.2.1.a.form
  have x0 := J0.out.x.f11
  have y0 := J0.out.y.f11
  rw [ea0] at x0
  rw [eb0] at y0
  have n0 : ((a.addrs.length : Int) != (b.addrs.length : Int)) = false := by rw [HL0.out]; simp
  clear ea0 eb0
  obtain ⟨aa1, ca1, ea1⟩ := HX.out.1.i.form
  obtain ⟨ab1, cb1, eb1⟩ := HX.out.2.1.i.form
  have x1 := J0.out.x.f12
  have y1 := J0.out.y.f12
  rw [ea1] at x1
  rw [eb1] at y1
  have n1 : ((a.items.length : Int) != (b.items.length : Int)) = false := by rw [HL1.out]; simp
  clear ea1 eb1
  obtain ⟨aa2, ca2, ea2⟩ := HX.out.1.h.form
  obtain ⟨ab2, cb2, eb2⟩ := HX.out.2.1.h.form
  have x2 := J0.out.x.f13
  have y2 := J0.out.y.f13
  rw [ea2] at x2
  rw [eb2] at y2
  have n2 : ((a.hashes.length : Int) != (b.hashes.length : Int)) = false := by rw [HL2.out]; simp
  clear ea2 eb2
  obtain ⟨aa3, ca3, ea3⟩ := HX.out.1.hd.form
  obtain ⟨ab3, cb3, eb3⟩ := HX.out.2.1.hd.form
  have x3 := J0.out.x.f16
  have y3 := J0.out.y.f16
  rw [ea3] at x3
  rw [eb3] at y3
  have n3 : ((a.heads.length : Int) != (b.heads.length : Int)) = false := by rw [HL3.out]; simp
  clear ea3 eb3
  obtain ⟨aa4, ca4, ea4⟩ := HX.out.1.sh.form
  obtain ⟨ab4, cb4, eb4⟩ := HX.out.2.1.sh.form
  have x4 := J0.out.x.f19
  have y4 := J0.out.y.f19
  rw [ea4] at x4
  rw [eb4] at y4
  have n4 : ((a.shorts.length : Int) != (b.shorts.length : Int)) = false := by rw [HL4.out]; simp
  clear ea4 eb4
  obtain ⟨aa5, ca5, ea5⟩ := HX.out.1.f.form
  obtain ⟨ab5, cb5, eb5⟩ := HX.out.2.1.f.form
  have x5 := J0.out.x.f20
  have y5 := J0.out.y.f20
  rw [ea5] at x5
  rw [eb5] at y5
  have n5 : ((a.filled.length : Int) != (b.filled.length : Int)) = false := by rw [HL5.out]; simp
  clear ea5 eb5
  obtain ⟨aa6, ca6, ea6⟩ := HX.out.1.p.form
  obtain ⟨ab6, cb6, eb6⟩ := HX.out.2.1.p.form
  have x6 := J0.out.x.f21
  have y6 := J0.out.y.f21
  rw [ea6] at x6
  rw [eb6] at y6
  have n6 : ((a.places.length : Int) != (b.places.length : Int)) = false := by rw [HL6.out]; simp
  clear ea6 eb6
  obtain ⟨aa7, ca7, ea7⟩ := HX.out.1.r.form
  obtain ⟨ab7, cb7, eb7⟩ := HX.out.2.1.r.form
  have x7 := J0.out.x.f22
  have y7 := J0.out.y.f22
  rw [ea7] at x7
  rw [eb7] at y7
  have n7 : ((a.raws.length : Int) != (b.raws.length : Int)) = false := by rw [HL7.out]; simp
  clear ea7 eb7
  go_upto_region 5 with fail
  clear x0 y0 n0 x1 y1 n1 x2 y2 n2 x3 y3 n3 x4 y4 n4 x5 y5 n5 x6 y6 n6 x7 y7 n7
  have HLL := hide (And.intro HL0.out ( And.intro HL1.out ( And.intro HL2.out ( And.intro HL3.out ( And.intro HL4.out ( And.intro HL5.out ( And.intro HL6.out (HL7.out))))))))
  clear HL0 HL1 HL2 HL3 HL4 HL5 HL6 HL7
  have D := hide trivial
  go_wp2
  go_loopw [5] (fun d wr => ∃ k : Nat, k ≤ a.addrs.length ∧ d = .int .i64 (k : Int) ∧ Hid (∀ j, j < k → a.addrs[j]? = b.addrs[j]?) ∧ Hid (Two 50 w wr w.heap.size gh a b sa sb)) (fun d _ => (a.addrs.length - intOf d).toNat)
  case atStart => exact ⟨0, Nat.zero_le _, rfl, fun j hj => by omega, J0⟩
  case round =>
    clear J0
    obtain ⟨k, hk, rfl, HJ, JW⟩ := hrel
    obtain ⟨aa0, ca0, ea0⟩ := HX.out.1.a.form
    obtain ⟨ab0, cb0, eb0⟩ := HX.out.2.1.a.form
    have LA0 := hide HX.out.1.a
    have LB0 := hide HX.out.2.1.a
    have hl0 := HLL.out.1
    have x0 := JW.out.x.f11
    have y0 := JW.out.y.f11
    rw [ea0] at x0 LA0
    rw [eb0] at y0 LB0
    have EA0 := hide ea0
    have EB0 := hide eb0
    have HL0 := hide hl0
    clear ea0 eb0 hl0
    by_cases hlt : k < a.addrs.length
    · have h1 : (k : Int) < (a.addrs.length : Int) := by omega
      have h2 : (k : Int) < (b.addrs.length : Int) := by have := HL0.out; omega
      have h3 : (0 : Int) ≤ (k : Int) := by omega
      have hfa := HX.out.2.2.a
      have e1 : IntKind.i64.wrap ((k : Int) + 1) = k + 1 := wrapI _ (by omega) (by omega)
      have hlb : k < b.addrs.length := by have := HL0.out; omega
      obtain ⟨ga, oa, rfl⟩ := LA0.out.base (by omega)
      obtain ⟨gb, ob, rfl⟩ := LB0.out.base (by omega)
      have KK := hide (And.intro (show k + 1 ≤ a.addrs.length by omega) (show ((a.addrs.length : Int) - ((k : Int) + 1)).toNat < ((a.addrs.length : Int) - (k : Int)).toNat by omega))
      have HX : Hid (a.addrs[k]? = some a.addrs[k]) := List.getElem?_eq_getElem hlt
      have HY : Hid (b.addrs[k]? = some b.addrs[k]) := List.getElem?_eq_getElem hlb
      have RA : Hid (∀ W, Below w.heap.size w W → W.rangeAt ga (oa + k * 19) (KNr.enc a.addrs[k])) := fun W h => (LA0.out.below h).range k hlt
      have RB : Hid (∀ W, Below w.heap.size w W → W.rangeAt gb (ob + k * 19) (KNr.enc b.addrs[k])) := fun W h => (LB0.out.below h).range k hlb
      have EQ := hide (eqNt fn_ref a.addrs[k] b.addrs[k])
      generalize a.addrs[k] = x at *
      generalize b.addrs[k] = y at *
      clear hlt hlb hk hfa
      by_cases hxy : x = y
      · have HN : Hid (∀ j, j < k + 1 → a.addrs[j]? = b.addrs[j]?) := fun j hj => by
          rcases Nat.lt_or_ge j k with h | h
          · exact HJ.out j h
          · rw [show j = k by omega, HX.out, HY.out, hxy]
        rw [decide_eq_true hxy] at EQ
        go_upto_region 8 with fail
        obtain ⟨I, hneI, F, i0, hd0, hJ, hcl⟩ : ∃ (I : Type) (_ : Nonempty I) (F : I → World) (i0 : I), wr.drew = F i0 ∧ Hid (∀ i, Two 50 w (F i) w.heap.size gh a b sa sb) ∧ True :=
          ⟨{W : World // Two 50 w W w.heap.size gh a b sa sb}, ⟨⟨_, JW.out⟩⟩, Subtype.val, ⟨wr.drew, JW.out.next (Below.refl _ _).drew⟩, rfl, fun i => i.2, trivial⟩
        have cx : ∀ i, (F i).cell? ⟨w.heap.size, 47, none⟩ = some (.slice (some ⟨ga, oa, none⟩) a.addrs.length ca0) := fun i => ((hJ.out i).x.f11).trans (by rw [EA0.out])
        have cy : ∀ i, (F i).cell? ⟨gh, 47, none⟩ = some (.slice (some ⟨gb, ob, none⟩) b.addrs.length cb0) := fun i => ((hJ.out i).y.f11).trans (by rw [EB0.out])
        refine wp_region_class_lit (by kernel_rfl) (by kernel_rfl) i0 hd0 ?_
        repeat (first | ((go_big_quiet_want; first | refine qLoadX KNr Tryz.underlying44 rfl _ (by rfl) ga (oa + k * 19) (by rfl) x (fun W hC => by obtain ⟨i, rfl⟩ := hC; exact RA.out _ (hJ.out i).bel) ?_ | refine qLoadX KNr Tryz.underlying44 rfl _ (by rfl) gb (ob + k * 19) (by rfl) y (fun W hC => by obtain ⟨i, rfl⟩ := hC; exact RB.out _ (hJ.out i).bel) ?_ | refine quiet_neqX 44 _ _ _ (by rfl) (KNr.enc x).toArray (KNr.enc y).toArray (by rfl) (by rfl) (by kernel_rfl) true EQ.out ?_); go_big_quiet_on; simp only [Act.put, List.setIfInBounds_toArray, List.set_cons_succ, List.set_cons_zero, Bool.not_true, Bool.not_false]) | go_big_quiet_step (fail))
        refine wpQuiet_nil ?_
        rintro _ ⟨iq, rfl⟩
        have JF := hide (hJ.out iq)
        clear hJ hcl hd0 JW cx cy x0 y0
        generalize F iq = W2 at *
        go_wp2
        exact ⟨⟨k + 1, KK.out.1, by go_num, HN, JF⟩, by simpa [intOf] using KK.out.2⟩
      · have hr : r = false := by
          have hne : ¬ a.addrs = b.addrs := fun h => hxy (Option.some.inj (HX.out.symm.trans ((congrArg (fun l => l[k]?) h).trans HY.out)))
          rw [HR.out]
          unfold eqL
          rw [decide_eq_false hne]
          simp only [Bool.and_false, Bool.false_and]
        subst hr
        rw [decide_eq_false hxy] at EQ
        go_upto_region 8 with fail
        obtain ⟨I, hneI, F, i0, hd0, hJ, hcl⟩ : ∃ (I : Type) (_ : Nonempty I) (F : I → World) (i0 : I), wr.drew = F i0 ∧ Hid (∀ i, Two 50 w (F i) w.heap.size gh a b sa sb) ∧ True :=
          ⟨{W : World // Two 50 w W w.heap.size gh a b sa sb}, ⟨⟨_, JW.out⟩⟩, Subtype.val, ⟨wr.drew, JW.out.next (Below.refl _ _).drew⟩, rfl, fun i => i.2, trivial⟩
        have cx : ∀ i, (F i).cell? ⟨w.heap.size, 47, none⟩ = some (.slice (some ⟨ga, oa, none⟩) a.addrs.length ca0) := fun i => ((hJ.out i).x.f11).trans (by rw [EA0.out])
        have cy : ∀ i, (F i).cell? ⟨gh, 47, none⟩ = some (.slice (some ⟨gb, ob, none⟩) b.addrs.length cb0) := fun i => ((hJ.out i).y.f11).trans (by rw [EB0.out])
        refine wp_region_class_lit (by kernel_rfl) (by kernel_rfl) i0 hd0 ?_
        repeat (first | ((go_big_quiet_want; first | refine qLoadX KNr Tryz.underlying44 rfl _ (by rfl) ga (oa + k * 19) (by rfl) x (fun W hC => by obtain ⟨i, rfl⟩ := hC; exact RA.out _ (hJ.out i).bel) ?_ | refine qLoadX KNr Tryz.underlying44 rfl _ (by rfl) gb (ob + k * 19) (by rfl) y (fun W hC => by obtain ⟨i, rfl⟩ := hC; exact RB.out _ (hJ.out i).bel) ?_ | refine quiet_neqX 44 _ _ _ (by rfl) (KNr.enc x).toArray (KNr.enc y).toArray (by rfl) (by rfl) (by kernel_rfl) false EQ.out ?_); go_big_quiet_on; simp only [Act.put, List.setIfInBounds_toArray, List.set_cons_succ, List.set_cons_zero, Bool.not_true, Bool.not_false]) | go_big_quiet_step (fail))
        refine wpQuiet_nil ?_
        rintro _ ⟨iq, rfl⟩
        have JF := hide (hJ.out iq)
        clear hJ hcl hd0 JW cx cy x0 y0
        generalize F iq = W2 at *
        go_wp2
        go_ret
        exact ⟨rfl, JF.out.bel⟩
    · have h1 : ¬ (k : Int) < (a.addrs.length : Int) := by omega
      have D0 : a.addrs = b.addrs := by
        apply List.ext_getElem?
        intro i
        rcases Nat.lt_or_ge i k with h | h
        · exact HJ.out i h
        · rw [List.getElem?_eq_none (by omega), List.getElem?_eq_none (by have := HL0.out; omega)]
      replace D := hide (And.intro D0 D.out)
      clear D0 LA0 LB0 EA0 EB0 HL0
      clear hlt hk
      go_upto_region 10 with fail
      clear x0 y0 h1 HJ
      have J1 := JW
      clear JW
      generalize wr = W1 at *
      go_wp2
      go_loopw [6] (fun d wr => ∃ k : Nat, k ≤ a.items.length ∧ d = .int .i64 (k : Int) ∧ Hid (∀ j, j < k → a.items[j]? = b.items[j]?) ∧ Hid (Two 50 w wr w.heap.size gh a b sa sb)) (fun d _ => (a.items.length - intOf d).toNat)
      case atStart => exact ⟨0, Nat.zero_le _, rfl, fun j hj => by omega, J1⟩
      case round =>
        clear J1
        obtain ⟨k, hk, rfl, HJ, JW⟩ := hrel
        obtain ⟨aa1, ca1, ea1⟩ := HX.out.1.i.form
        obtain ⟨ab1, cb1, eb1⟩ := HX.out.2.1.i.form
        have LA1 := hide HX.out.1.i
        have LB1 := hide HX.out.2.1.i
        have hl1 := HLL.out.2.1
        have x1 := JW.out.x.f12
        have y1 := JW.out.y.f12
        rw [ea1] at x1 LA1
        rw [eb1] at y1 LB1
        have EA1 := hide ea1
        have EB1 := hide eb1
        have HL1 := hide hl1
        clear ea1 eb1 hl1
        by_cases hlt : k < a.items.length
        · have h1 : (k : Int) < (a.items.length : Int) := by omega
          have h2 : (k : Int) < (b.items.length : Int) := by have := HL1.out; omega
          have h3 : (0 : Int) ≤ (k : Int) := by omega
          have hfa := HX.out.2.2.i
          have e1 : IntKind.i64.wrap ((k : Int) + 1) = k + 1 := wrapI _ (by omega) (by omega)
          have hlb : k < b.items.length := by have := HL1.out; omega
          obtain ⟨ga, oa, rfl⟩ := LA1.out.base (by omega)
          obtain ⟨gb, ob, rfl⟩ := LB1.out.base (by omega)
          have KK := hide (And.intro (show k + 1 ≤ a.items.length by omega) (show ((a.items.length : Int) - ((k : Int) + 1)).toNat < ((a.items.length : Int) - (k : Int)).toNat by omega))
          have HX : Hid (a.items[k]? = some a.items[k]) := List.getElem?_eq_getElem hlt
          have HY : Hid (b.items[k]? = some b.items[k]) := List.getElem?_eq_getElem hlb
          have RA : Hid (∀ W, Below w.heap.size w W → W.rangeAt ga (oa + k * 33) (KIr.enc a.items[k])) := fun W h => (LA1.out.below h).range k hlt
          have RB : Hid (∀ W, Below w.heap.size w W → W.rangeAt gb (ob + k * 33) (KIr.enc b.items[k])) := fun W h => (LB1.out.below h).range k hlb
          have EQ := hide (eqIm fi_ref a.items[k] b.items[k])
          generalize a.items[k] = x at *
          generalize b.items[k] = y at *
          clear hlt hlb hk hfa
          by_cases hxy : x = y
          · have HN : Hid (∀ j, j < k + 1 → a.items[j]? = b.items[j]?) := fun j hj => by
              rcases Nat.lt_or_ge j k with h | h
              · exact HJ.out j h
              · rw [show j = k by omega, HX.out, HY.out, hxy]
            rw [decide_eq_true hxy] at EQ
            go_upto_region 13 with fail
            obtain ⟨I, hneI, F, i0, hd0, hJ, hcl⟩ : ∃ (I : Type) (_ : Nonempty I) (F : I → World) (i0 : I), wr.drew = F i0 ∧ Hid (∀ i, Two 50 w (F i) w.heap.size gh a b sa sb) ∧ True :=
              ⟨{W : World // Two 50 w W w.heap.size gh a b sa sb}, ⟨⟨_, JW.out⟩⟩, Subtype.val, ⟨wr.drew, JW.out.next (Below.refl _ _).drew⟩, rfl, fun i => i.2, trivial⟩
            have cx : ∀ i, (F i).cell? ⟨w.heap.size, 48, none⟩ = some (.slice (some ⟨ga, oa, none⟩) a.items.length ca1) := fun i => ((hJ.out i).x.f12).trans (by rw [EA1.out])
            have cy : ∀ i, (F i).cell? ⟨gh, 48, none⟩ = some (.slice (some ⟨gb, ob, none⟩) b.items.length cb1) := fun i => ((hJ.out i).y.f12).trans (by rw [EB1.out])
            refine wp_region_class_lit (by kernel_rfl) (by kernel_rfl) i0 hd0 ?_
            repeat (first | ((go_big_quiet_want; first | refine qLoadX KIr Tryz.underlying75 rfl _ (by rfl) ga (oa + k * 33) (by rfl) x (fun W hC => by obtain ⟨i, rfl⟩ := hC; exact RA.out _ (hJ.out i).bel) ?_ | refine qLoadX KIr Tryz.underlying75 rfl _ (by rfl) gb (ob + k * 33) (by rfl) y (fun W hC => by obtain ⟨i, rfl⟩ := hC; exact RB.out _ (hJ.out i).bel) ?_ | refine quiet_neqX 75 _ _ _ (by rfl) (KIr.enc x).toArray (KIr.enc y).toArray (by rfl) (by rfl) (by kernel_rfl) true EQ.out ?_); go_big_quiet_on; simp only [Act.put, List.setIfInBounds_toArray, List.set_cons_succ, List.set_cons_zero, Bool.not_true, Bool.not_false]) | go_big_quiet_step (fail))
            refine wpQuiet_nil ?_
            rintro _ ⟨iq, rfl⟩
            have JF := hide (hJ.out iq)
            clear hJ hcl hd0 JW cx cy x1 y1
            generalize F iq = W2 at *
            go_wp2
            exact ⟨⟨k + 1, KK.out.1, by go_num, HN, JF⟩, by simpa [intOf] using KK.out.2⟩
          · have hr : r = false := by
              have hne : ¬ a.items = b.items := fun h => hxy (Option.some.inj (HX.out.symm.trans ((congrArg (fun l => l[k]?) h).trans HY.out)))
              rw [HR.out]
              unfold eqL
              rw [decide_eq_false hne]
              simp only [Bool.and_false, Bool.false_and]
            subst hr
            rw [decide_eq_false hxy] at EQ
            go_upto_region 13 with fail
            obtain ⟨I, hneI, F, i0, hd0, hJ, hcl⟩ : ∃ (I : Type) (_ : Nonempty I) (F : I → World) (i0 : I), wr.drew = F i0 ∧ Hid (∀ i, Two 50 w (F i) w.heap.size gh a b sa sb) ∧ True :=
              ⟨{W : World // Two 50 w W w.heap.size gh a b sa sb}, ⟨⟨_, JW.out⟩⟩, Subtype.val, ⟨wr.drew, JW.out.next (Below.refl _ _).drew⟩, rfl, fun i => i.2, trivial⟩
            have cx : ∀ i, (F i).cell? ⟨w.heap.size, 48, none⟩ = some (.slice (some ⟨ga, oa, none⟩) a.items.length ca1) := fun i => ((hJ.out i).x.f12).trans (by rw [EA1.out])
            have cy : ∀ i, (F i).cell? ⟨gh, 48, none⟩ = some (.slice (some ⟨gb, ob, none⟩) b.items.length cb1) := fun i => ((hJ.out i).y.f12).trans (by rw [EB1.out])
            refine wp_region_class_lit (by kernel_rfl) (by kernel_rfl) i0 hd0 ?_
            repeat (first | ((go_big_quiet_want; first | refine qLoadX KIr Tryz.underlying75 rfl _ (by rfl) ga (oa + k * 33) (by rfl) x (fun W hC => by obtain ⟨i, rfl⟩ := hC; exact RA.out _ (hJ.out i).bel) ?_ | refine qLoadX KIr Tryz.underlying75 rfl _ (by rfl) gb (ob + k * 33) (by rfl) y (fun W hC => by obtain ⟨i, rfl⟩ := hC; exact RB.out _ (hJ.out i).bel) ?_ | refine quiet_neqX 75 _ _ _ (by rfl) (KIr.enc x).toArray (KIr.enc y).toArray (by rfl) (by rfl) (by kernel_rfl) false EQ.out ?_); go_big_quiet_on; simp only [Act.put, List.setIfInBounds_toArray, List.set_cons_succ, List.set_cons_zero, Bool.not_true, Bool.not_false]) | go_big_quiet_step (fail))
            refine wpQuiet_nil ?_
            rintro _ ⟨iq, rfl⟩
            have JF := hide (hJ.out iq)
            clear hJ hcl hd0 JW cx cy x1 y1
            generalize F iq = W2 at *
            go_wp2
            go_ret
            exact ⟨rfl, JF.out.bel⟩
        · have h1 : ¬ (k : Int) < (a.items.length : Int) := by omega
          have D1 : a.items = b.items := by
            apply List.ext_getElem?
            intro i
            rcases Nat.lt_or_ge i k with h | h
            · exact HJ.out i h
            · rw [List.getElem?_eq_none (by omega), List.getElem?_eq_none (by have := HL1.out; omega)]
          replace D := hide (And.intro D1 D.out)
          clear D1 LA1 LB1 EA1 EB1 HL1
          clear hlt hk
          go_upto_region 15 with fail
          clear x1 y1 h1 HJ
          have J2 := JW
          clear JW
          generalize wr = W2 at *
          go_wp2
          go_loopw [7] (fun d wr => ∃ k : Nat, k ≤ a.hashes.length ∧ d = .int .i64 (k : Int) ∧ Hid (∀ j, j < k → a.hashes[j]? = b.hashes[j]?) ∧ Hid (Two 50 w wr w.heap.size gh a b sa sb)) (fun d _ => (a.hashes.length - intOf d).toNat)
          case atStart => exact ⟨0, Nat.zero_le _, rfl, fun j hj => by omega, J2⟩
          case round =>
            clear J2
            obtain ⟨k, hk, rfl, HJ, JW⟩ := hrel
            obtain ⟨aa2, ca2, ea2⟩ := HX.out.1.h.form
            obtain ⟨ab2, cb2, eb2⟩ := HX.out.2.1.h.form
            have LA2 := hide HX.out.1.h
            have LB2 := hide HX.out.2.1.h
            have hl2 := HLL.out.2.2.1
            have x2 := JW.out.x.f13
            have y2 := JW.out.y.f13
            rw [ea2] at x2 LA2
            rw [eb2] at y2 LB2
            have EA2 := hide ea2
            have EB2 := hide eb2
            have HL2 := hide hl2
            clear ea2 eb2 hl2
            by_cases hlt : k < a.hashes.length
            · have h1 : (k : Int) < (a.hashes.length : Int) := by omega
              have h2 : (k : Int) < (b.hashes.length : Int) := by have := HL2.out; omega
              have h3 : (0 : Int) ≤ (k : Int) := by omega
              have hfa := HX.out.2.2.h
              have e1 : IntKind.i64.wrap ((k : Int) + 1) = k + 1 := wrapI _ (by omega) (by omega)
              have hlb : k < b.hashes.length := by have := HL2.out; omega
              obtain ⟨ga, oa, rfl⟩ := LA2.out.base (by omega)
              obtain ⟨gb, ob, rfl⟩ := LB2.out.base (by omega)
              have KK := hide (And.intro (show k + 1 ≤ a.hashes.length by omega) (show ((a.hashes.length : Int) - ((k : Int) + 1)).toNat < ((a.hashes.length : Int) - (k : Int)).toNat by omega))
              have HX : Hid (a.hashes[k]? = some a.hashes[k]) := List.getElem?_eq_getElem hlt
              have HY : Hid (b.hashes[k]? = some b.hashes[k]) := List.getElem?_eq_getElem hlb
              have RA : Hid (∀ W, Below w.heap.size w W → W.rangeAt ga (oa + k * 32) (KHr.enc a.hashes[k])) := fun W h => (LA2.out.below h).range k hlt
              have RB : Hid (∀ W, Below w.heap.size w W → W.rangeAt gb (ob + k * 32) (KHr.enc b.hashes[k])) := fun W h => (LB2.out.below h).range k hlb
              have EQ := hide (eqId Tryz.underlying31 a.hashes[k] b.hashes[k])
              generalize a.hashes[k] = x at *
              generalize b.hashes[k] = y at *
              clear hlt hlb hk hfa
              by_cases hxy : x = y
              · have HN : Hid (∀ j, j < k + 1 → a.hashes[j]? = b.hashes[j]?) := fun j hj => by
                  rcases Nat.lt_or_ge j k with h | h
                  · exact HJ.out j h
                  · rw [show j = k by omega, HX.out, HY.out, hxy]
                rw [decide_eq_true hxy] at EQ
                go_upto_region 18 with fail
                obtain ⟨I, hneI, F, i0, hd0, hJ, hcl⟩ : ∃ (I : Type) (_ : Nonempty I) (F : I → World) (i0 : I), wr.drew = F i0 ∧ Hid (∀ i, Two 50 w (F i) w.heap.size gh a b sa sb) ∧ True :=
                  ⟨{W : World // Two 50 w W w.heap.size gh a b sa sb}, ⟨⟨_, JW.out⟩⟩, Subtype.val, ⟨wr.drew, JW.out.next (Below.refl _ _).drew⟩, rfl, fun i => i.2, trivial⟩
                have cx : ∀ i, (F i).cell? ⟨w.heap.size, 49, none⟩ = some (.slice (some ⟨ga, oa, none⟩) a.hashes.length ca2) := fun i => ((hJ.out i).x.f13).trans (by rw [EA2.out])
                have cy : ∀ i, (F i).cell? ⟨gh, 49, none⟩ = some (.slice (some ⟨gb, ob, none⟩) b.hashes.length cb2) := fun i => ((hJ.out i).y.f13).trans (by rw [EB2.out])
                refine wp_region_class_lit (by kernel_rfl) (by kernel_rfl) i0 hd0 ?_
                repeat (first | ((go_big_quiet_want; first | refine qLoadX KHr Tryz.underlying31 rfl _ (by rfl) ga (oa + k * 32) (by rfl) x (fun W hC => by obtain ⟨i, rfl⟩ := hC; exact RA.out _ (hJ.out i).bel) ?_ | refine qLoadX KHr Tryz.underlying31 rfl _ (by rfl) gb (ob + k * 32) (by rfl) y (fun W hC => by obtain ⟨i, rfl⟩ := hC; exact RB.out _ (hJ.out i).bel) ?_ | refine quiet_neqX 31 _ _ _ (by rfl) (KHr.enc x).toArray (KHr.enc y).toArray (by rfl) (by rfl) (by kernel_rfl) true EQ.out ?_); go_big_quiet_on; simp only [Act.put, List.setIfInBounds_toArray, List.set_cons_succ, List.set_cons_zero, Bool.not_true, Bool.not_false]) | go_big_quiet_step (fail))
                refine wpQuiet_nil ?_
                rintro _ ⟨iq, rfl⟩
                have JF := hide (hJ.out iq)
                clear hJ hcl hd0 JW cx cy x2 y2
                generalize F iq = W2 at *
                go_wp2
                exact ⟨⟨k + 1, KK.out.1, by go_num, HN, JF⟩, by simpa [intOf] using KK.out.2⟩
              · have hr : r = false := by
                  have hne : ¬ a.hashes = b.hashes := fun h => hxy (Option.some.inj (HX.out.symm.trans ((congrArg (fun l => l[k]?) h).trans HY.out)))
                  rw [HR.out]
                  unfold eqL
                  rw [decide_eq_false hne]
                  simp only [Bool.and_false, Bool.false_and]
                subst hr
                rw [decide_eq_false hxy] at EQ
                go_upto_region 18 with fail
                obtain ⟨I, hneI, F, i0, hd0, hJ, hcl⟩ : ∃ (I : Type) (_ : Nonempty I) (F : I → World) (i0 : I), wr.drew = F i0 ∧ Hid (∀ i, Two 50 w (F i) w.heap.size gh a b sa sb) ∧ True :=
                  ⟨{W : World // Two 50 w W w.heap.size gh a b sa sb}, ⟨⟨_, JW.out⟩⟩, Subtype.val, ⟨wr.drew, JW.out.next (Below.refl _ _).drew⟩, rfl, fun i => i.2, trivial⟩
                have cx : ∀ i, (F i).cell? ⟨w.heap.size, 49, none⟩ = some (.slice (some ⟨ga, oa, none⟩) a.hashes.length ca2) := fun i => ((hJ.out i).x.f13).trans (by rw [EA2.out])
                have cy : ∀ i, (F i).cell? ⟨gh, 49, none⟩ = some (.slice (some ⟨gb, ob, none⟩) b.hashes.length cb2) := fun i => ((hJ.out i).y.f13).trans (by rw [EB2.out])
                refine wp_region_class_lit (by kernel_rfl) (by kernel_rfl) i0 hd0 ?_
                repeat (first | ((go_big_quiet_want; first | refine qLoadX KHr Tryz.underlying31 rfl _ (by rfl) ga (oa + k * 32) (by rfl) x (fun W hC => by obtain ⟨i, rfl⟩ := hC; exact RA.out _ (hJ.out i).bel) ?_ | refine qLoadX KHr Tryz.underlying31 rfl _ (by rfl) gb (ob + k * 32) (by rfl) y (fun W hC => by obtain ⟨i, rfl⟩ := hC; exact RB.out _ (hJ.out i).bel) ?_ | refine quiet_neqX 31 _ _ _ (by rfl) (KHr.enc x).toArray (KHr.enc y).toArray (by rfl) (by rfl) (by kernel_rfl) false EQ.out ?_); go_big_quiet_on; simp only [Act.put, List.setIfInBounds_toArray, List.set_cons_succ, List.set_cons_zero, Bool.not_true, Bool.not_false]) | go_big_quiet_step (fail))
                refine wpQuiet_nil ?_
                rintro _ ⟨iq, rfl⟩
                have JF := hide (hJ.out iq)
                clear hJ hcl hd0 JW cx cy x2 y2
                generalize F iq = W2 at *
                go_wp2
                go_ret
                exact ⟨rfl, JF.out.bel⟩
            · have h1 : ¬ (k : Int) < (a.hashes.length : Int) := by omega
              have D2 : a.hashes = b.hashes := by
                apply List.ext_getElem?
                intro i
                rcases Nat.lt_or_ge i k with h | h
                · exact HJ.out i h
                · rw [List.getElem?_eq_none (by omega), List.getElem?_eq_none (by have := HL2.out; omega)]
              replace D := hide (And.intro D2 D.out)
              clear D2 LA2 LB2 EA2 EB2 HL2
              clear hlt hk
              go_upto_region 20 with fail
              clear x2 y2 h1 HJ
              have J3 := JW
              clear JW
              generalize wr = W3 at *
              go_wp2
              go_loopw [8] (fun d wr => ∃ k : Nat, k ≤ a.heads.length ∧ d = .int .i64 (k : Int) ∧ Hid (∀ j, j < k → a.heads[j]? = b.heads[j]?) ∧ Hid (Two 50 w wr w.heap.size gh a b sa sb)) (fun d _ => (a.heads.length - intOf d).toNat)
              case atStart => exact ⟨0, Nat.zero_le _, rfl, fun j hj => by omega, J3⟩
              case round =>
                clear J3
                obtain ⟨k, hk, rfl, HJ, JW⟩ := hrel
                obtain ⟨aa3, ca3, ea3⟩ := HX.out.1.hd.form
                obtain ⟨ab3, cb3, eb3⟩ := HX.out.2.1.hd.form
                have LA3 := hide HX.out.1.hd
                have LB3 := hide HX.out.2.1.hd
                have hl3 := HLL.out.2.2.2.1
                have x3 := JW.out.x.f16
                have y3 := JW.out.y.f16
                rw [ea3] at x3 LA3
                rw [eb3] at y3 LB3
                have EA3 := hide ea3
                have EB3 := hide eb3
                have HL3 := hide hl3
                clear ea3 eb3 hl3
                by_cases hlt : k < a.heads.length
                · have h1 : (k : Int) < (a.heads.length : Int) := by omega
                  have h2 : (k : Int) < (b.heads.length : Int) := by have := HL3.out; omega
                  have h3 : (0 : Int) ≤ (k : Int) := by omega
                  have hfa := HX.out.2.2.hd
                  have e1 : IntKind.i64.wrap ((k : Int) + 1) = k + 1 := wrapI _ (by omega) (by omega)
                  have hlb : k < b.heads.length := by have := HL3.out; omega
                  obtain ⟨ga, oa, rfl⟩ := LA3.out.base (by omega)
                  obtain ⟨gb, ob, rfl⟩ := LB3.out.base (by omega)
                  have KK := hide (And.intro (show k + 1 ≤ a.heads.length by omega) (show ((a.heads.length : Int) - ((k : Int) + 1)).toNat < ((a.heads.length : Int) - (k : Int)).toNat by omega))
                  have HX : Hid (a.heads[k]? = some a.heads[k]) := List.getElem?_eq_getElem hlt
                  have HY : Hid (b.heads[k]? = some b.heads[k]) := List.getElem?_eq_getElem hlb
                  have ca2 := (LA3.out.below JW.out.bel).cellX k hlt rfl rfl
                  have cb2 := (LB3.out.below JW.out.bel).cellX k hlb rfl rfl
                  generalize a.heads[k] = x at *
                  generalize b.heads[k] = y at *
                  clear hlt hlb hk hfa
                  by_cases hxy : x = y
                  · have HN : Hid (∀ j, j < k + 1 → a.heads[j]? = b.heads[j]?) := fun j hj => by
                      rcases Nat.lt_or_ge j k with h | h
                      · exact HJ.out j h
                      · rw [show j = k by omega, HX.out, HY.out, hxy]
                    have q1 : (x.toList == y.toList) = true := by rw [hxy]; simp
                    clear HX HY
                    go_upto_region 23 with fail
                    go_quiet (fail)
                    have JF := hide (JW.out.next (below_drewN (Below.refl _ _) nq))
                    go_wp2
                    exact ⟨⟨k + 1, KK.out.1, by go_num, HN, JF⟩, by simpa [intOf] using KK.out.2⟩
                  · have hr : r = false := by
                      have hne : ¬ a.heads = b.heads := fun h => hxy (Option.some.inj (HX.out.symm.trans ((congrArg (fun l => l[k]?) h).trans HY.out)))
                      rw [HR.out]
                      unfold eqL
                      rw [decide_eq_false hne]
                      simp only [Bool.and_false, Bool.false_and]
                    subst hr
                    have q1 : (x.toList == y.toList) = false := by rw [bytes_same]; exact decide_eq_false hxy
                    clear HX HY
                    go_upto_region 23 with fail
                    go_quiet (fail)
                    have JF := hide (JW.out.next (below_drewN (Below.refl _ _) nq))
                    go_wp2
                    go_ret
                    exact ⟨rfl, JF.out.bel⟩
                · have h1 : ¬ (k : Int) < (a.heads.length : Int) := by omega
                  have D3 : a.heads = b.heads := by
                    apply List.ext_getElem?
                    intro i
                    rcases Nat.lt_or_ge i k with h | h
                    · exact HJ.out i h
                    · rw [List.getElem?_eq_none (by omega), List.getElem?_eq_none (by have := HL3.out; omega)]
                  replace D := hide (And.intro D3 D.out)
                  clear D3 LA3 LB3 EA3 EB3 HL3
                  clear hlt hk
                  go_upto_region 25 with fail
                  clear x3 y3 h1 HJ
                  have J4 := JW
                  clear JW
                  generalize wr = W4 at *
                  go_wp2
                  go_loopw [9] (fun d wr => ∃ k : Nat, k ≤ a.shorts.length ∧ d = .int .i64 (k : Int) ∧ Hid (∀ j, j < k → a.shorts[j]? = b.shorts[j]?) ∧ Hid (Two 50 w wr w.heap.size gh a b sa sb)) (fun d _ => (a.shorts.length - intOf d).toNat)
                  case atStart => exact ⟨0, Nat.zero_le _, rfl, fun j hj => by omega, J4⟩
                  case round =>
                    clear J4
                    obtain ⟨k, hk, rfl, HJ, JW⟩ := hrel
                    obtain ⟨aa4, ca4, ea4⟩ := HX.out.1.sh.form
                    obtain ⟨ab4, cb4, eb4⟩ := HX.out.2.1.sh.form
                    have LA4 := hide HX.out.1.sh
                    have LB4 := hide HX.out.2.1.sh
                    have hl4 := HLL.out.2.2.2.2.1
                    have x4 := JW.out.x.f19
                    have y4 := JW.out.y.f19
                    rw [ea4] at x4 LA4
                    rw [eb4] at y4 LB4
                    have EA4 := hide ea4
                    have EB4 := hide eb4
                    have HL4 := hide hl4
                    clear ea4 eb4 hl4
                    by_cases hlt : k < a.shorts.length
                    · have h1 : (k : Int) < (a.shorts.length : Int) := by omega
                      have h2 : (k : Int) < (b.shorts.length : Int) := by have := HL4.out; omega
                      have h3 : (0 : Int) ≤ (k : Int) := by omega
                      have hfa := HX.out.2.2.sh
                      have e1 : IntKind.i64.wrap ((k : Int) + 1) = k + 1 := wrapI _ (by omega) (by omega)
                      have hlb : k < b.shorts.length := by have := HL4.out; omega
                      obtain ⟨ga, oa, rfl⟩ := LA4.out.base (by omega)
                      obtain ⟨gb, ob, rfl⟩ := LB4.out.base (by omega)
                      have KK := hide (And.intro (show k + 1 ≤ a.shorts.length by omega) (show ((a.shorts.length : Int) - ((k : Int) + 1)).toNat < ((a.shorts.length : Int) - (k : Int)).toNat by omega))
                      have HX : Hid (a.shorts[k]? = some a.shorts[k]) := List.getElem?_eq_getElem hlt
                      have HY : Hid (b.shorts[k]? = some b.shorts[k]) := List.getElem?_eq_getElem hlb
                      have ca2 := (LA4.out.below JW.out.bel).cellX k hlt rfl rfl
                      have cb2 := (LB4.out.below JW.out.bel).cellX k hlb rfl rfl
                      generalize a.shorts[k] = x at *
                      generalize b.shorts[k] = y at *
                      clear hlt hlb hk hfa
                      by_cases hxy : x = y
                      · have HN : Hid (∀ j, j < k + 1 → a.shorts[j]? = b.shorts[j]?) := fun j hj => by
                          rcases Nat.lt_or_ge j k with h | h
                          · exact HJ.out j h
                          · rw [show j = k by omega, HX.out, HY.out, hxy]
                        have q1 : ((x.toNat : Int) != (y.toNat : Int)) = false := by rw [hxy]; simp
                        clear HX HY
                        go_upto_region 28 with fail
                        go_quiet (fail)
                        have JF := hide (JW.out.next (below_drewN (Below.refl _ _) nq))
                        go_wp2
                        exact ⟨⟨k + 1, KK.out.1, by go_num, HN, JF⟩, by simpa [intOf] using KK.out.2⟩
                      · have hr : r = false := by
                          have hne : ¬ a.shorts = b.shorts := fun h => hxy (Option.some.inj (HX.out.symm.trans ((congrArg (fun l => l[k]?) h).trans HY.out)))
                          rw [HR.out]
                          unfold eqL
                          rw [decide_eq_false hne]
                          simp only [Bool.and_false, Bool.false_and]
                        subst hr
                        have q1 : ((x.toNat : Int) != (y.toNat : Int)) = true := by rw [bne_iff_ne]; intro h; exact hxy (UInt64.toNat_inj.1 (by omega))
                        clear HX HY
                        go_upto_region 28 with fail
                        go_quiet (fail)
                        have JF := hide (JW.out.next (below_drewN (Below.refl _ _) nq))
                        go_wp2
                        go_ret
                        exact ⟨rfl, JF.out.bel⟩
                    · have h1 : ¬ (k : Int) < (a.shorts.length : Int) := by omega
                      have D4 : a.shorts = b.shorts := by
                        apply List.ext_getElem?
                        intro i
                        rcases Nat.lt_or_ge i k with h | h
                        · exact HJ.out i h
                        · rw [List.getElem?_eq_none (by omega), List.getElem?_eq_none (by have := HL4.out; omega)]
                      replace D := hide (And.intro D4 D.out)
                      clear D4 LA4 LB4 EA4 EB4 HL4
                      clear hlt hk
                      go_upto_region 30 with fail
                      clear x4 y4 h1 HJ
                      have J5 := JW
                      clear JW
                      generalize wr = W5 at *
                      go_wp2
                      go_loopw [10] (fun d wr => ∃ k : Nat, k ≤ a.filled.length ∧ d = .int .i64 (k : Int) ∧ Hid (∀ j, j < k → a.filled[j]? = b.filled[j]?) ∧ Hid (Two 50 w wr w.heap.size gh a b sa sb)) (fun d _ => (a.filled.length - intOf d).toNat)
                      case atStart => exact ⟨0, Nat.zero_le _, rfl, fun j hj => by omega, J5⟩
                      case round =>
                        clear J5
                        obtain ⟨k, hk, rfl, HJ, JW⟩ := hrel
                        obtain ⟨aa5, ca5, ea5⟩ := HX.out.1.f.form
                        obtain ⟨ab5, cb5, eb5⟩ := HX.out.2.1.f.form
                        have LA5 := hide HX.out.1.f
                        have LB5 := hide HX.out.2.1.f
                        have hl5 := HLL.out.2.2.2.2.2.1
                        have x5 := JW.out.x.f20
                        have y5 := JW.out.y.f20
                        rw [ea5] at x5 LA5
                        rw [eb5] at y5 LB5
                        have EA5 := hide ea5
                        have EB5 := hide eb5
                        have HL5 := hide hl5
                        clear ea5 eb5 hl5
                        by_cases hlt : k < a.filled.length
                        · have h1 : (k : Int) < (a.filled.length : Int) := by omega
                          have h2 : (k : Int) < (b.filled.length : Int) := by have := HL5.out; omega
                          have h3 : (0 : Int) ≤ (k : Int) := by omega
                          have hfa := HX.out.2.2.f
                          have e1 : IntKind.i64.wrap ((k : Int) + 1) = k + 1 := wrapI _ (by omega) (by omega)
                          have hlb : k < b.filled.length := by have := HL5.out; omega
                          obtain ⟨ga, oa, rfl⟩ := LA5.out.base (by omega)
                          obtain ⟨gb, ob, rfl⟩ := LB5.out.base (by omega)
                          have KK := hide (And.intro (show k + 1 ≤ a.filled.length by omega) (show ((a.filled.length : Int) - ((k : Int) + 1)).toNat < ((a.filled.length : Int) - (k : Int)).toNat by omega))
                          have HX : Hid (a.filled[k]? = some a.filled[k]) := List.getElem?_eq_getElem hlt
                          have HY : Hid (b.filled[k]? = some b.filled[k]) := List.getElem?_eq_getElem hlb
                          have RA : Hid (∀ W, Below w.heap.size w W → W.rangeAt ga (oa + k * 2) (KFr.enc a.filled[k])) := fun W h => (LA5.out.below h).range k hlt
                          have RB : Hid (∀ W, Below w.heap.size w W → W.rangeAt gb (ob + k * 2) (KFr.enc b.filled[k])) := fun W h => (LB5.out.below h).range k hlb
                          have EQ := hide (eqFd ff_ref a.filled[k] b.filled[k])
                          generalize a.filled[k] = x at *
                          generalize b.filled[k] = y at *
                          clear hlt hlb hk hfa
                          by_cases hxy : x = y
                          · have HN : Hid (∀ j, j < k + 1 → a.filled[j]? = b.filled[j]?) := fun j hj => by
                              rcases Nat.lt_or_ge j k with h | h
                              · exact HJ.out j h
                              · rw [show j = k by omega, HX.out, HY.out, hxy]
                            rw [decide_eq_true hxy] at EQ
                            go_upto_region 33 with fail
                            obtain ⟨I, hneI, F, i0, hd0, hJ, hcl⟩ : ∃ (I : Type) (_ : Nonempty I) (F : I → World) (i0 : I), wr.drew = F i0 ∧ Hid (∀ i, Two 50 w (F i) w.heap.size gh a b sa sb) ∧ True :=
                              ⟨{W : World // Two 50 w W w.heap.size gh a b sa sb}, ⟨⟨_, JW.out⟩⟩, Subtype.val, ⟨wr.drew, JW.out.next (Below.refl _ _).drew⟩, rfl, fun i => i.2, trivial⟩
                            have cx : ∀ i, (F i).cell? ⟨w.heap.size, 118, none⟩ = some (.slice (some ⟨ga, oa, none⟩) a.filled.length ca5) := fun i => ((hJ.out i).x.f20).trans (by rw [EA5.out])
                            have cy : ∀ i, (F i).cell? ⟨gh, 118, none⟩ = some (.slice (some ⟨gb, ob, none⟩) b.filled.length cb5) := fun i => ((hJ.out i).y.f20).trans (by rw [EB5.out])
                            refine wp_region_class_lit (by kernel_rfl) (by kernel_rfl) i0 hd0 ?_
                            repeat (first | ((go_big_quiet_want; first | refine qLoadX KFr Tryz.underlying78 rfl _ (by rfl) ga (oa + k * 2) (by rfl) x (fun W hC => by obtain ⟨i, rfl⟩ := hC; exact RA.out _ (hJ.out i).bel) ?_ | refine qLoadX KFr Tryz.underlying78 rfl _ (by rfl) gb (ob + k * 2) (by rfl) y (fun W hC => by obtain ⟨i, rfl⟩ := hC; exact RB.out _ (hJ.out i).bel) ?_ | refine quiet_neqX 78 _ _ _ (by rfl) (KFr.enc x).toArray (KFr.enc y).toArray (by rfl) (by rfl) (by kernel_rfl) true EQ.out ?_); go_big_quiet_on; simp only [Act.put, List.setIfInBounds_toArray, List.set_cons_succ, List.set_cons_zero, Bool.not_true, Bool.not_false]) | go_big_quiet_step (fail))
                            refine wpQuiet_nil ?_
                            rintro _ ⟨iq, rfl⟩
                            have JF := hide (hJ.out iq)
                            clear hJ hcl hd0 JW cx cy x5 y5
                            generalize F iq = W2 at *
                            go_wp2
                            exact ⟨⟨k + 1, KK.out.1, by go_num, HN, JF⟩, by simpa [intOf] using KK.out.2⟩
                          · have hr : r = false := by
                              have hne : ¬ a.filled = b.filled := fun h => hxy (Option.some.inj (HX.out.symm.trans ((congrArg (fun l => l[k]?) h).trans HY.out)))
                              rw [HR.out]
                              unfold eqL
                              rw [decide_eq_false hne]
                              simp only [Bool.and_false, Bool.false_and]
                            subst hr
                            rw [decide_eq_false hxy] at EQ
                            go_upto_region 33 with fail
                            obtain ⟨I, hneI, F, i0, hd0, hJ, hcl⟩ : ∃ (I : Type) (_ : Nonempty I) (F : I → World) (i0 : I), wr.drew = F i0 ∧ Hid (∀ i, Two 50 w (F i) w.heap.size gh a b sa sb) ∧ True :=
                              ⟨{W : World // Two 50 w W w.heap.size gh a b sa sb}, ⟨⟨_, JW.out⟩⟩, Subtype.val, ⟨wr.drew, JW.out.next (Below.refl _ _).drew⟩, rfl, fun i => i.2, trivial⟩
                            have cx : ∀ i, (F i).cell? ⟨w.heap.size, 118, none⟩ = some (.slice (some ⟨ga, oa, none⟩) a.filled.length ca5) := fun i => ((hJ.out i).x.f20).trans (by rw [EA5.out])
                            have cy : ∀ i, (F i).cell? ⟨gh, 118, none⟩ = some (.slice (some ⟨gb, ob, none⟩) b.filled.length cb5) := fun i => ((hJ.out i).y.f20).trans (by rw [EB5.out])
                            refine wp_region_class_lit (by kernel_rfl) (by kernel_rfl) i0 hd0 ?_
                            repeat (first | ((go_big_quiet_want; first | refine qLoadX KFr Tryz.underlying78 rfl _ (by rfl) ga (oa + k * 2) (by rfl) x (fun W hC => by obtain ⟨i, rfl⟩ := hC; exact RA.out _ (hJ.out i).bel) ?_ | refine qLoadX KFr Tryz.underlying78 rfl _ (by rfl) gb (ob + k * 2) (by rfl) y (fun W hC => by obtain ⟨i, rfl⟩ := hC; exact RB.out _ (hJ.out i).bel) ?_ | refine quiet_neqX 78 _ _ _ (by rfl) (KFr.enc x).toArray (KFr.enc y).toArray (by rfl) (by rfl) (by kernel_rfl) false EQ.out ?_); go_big_quiet_on; simp only [Act.put, List.setIfInBounds_toArray, List.set_cons_succ, List.set_cons_zero, Bool.not_true, Bool.not_false]) | go_big_quiet_step (fail))
                            refine wpQuiet_nil ?_
                            rintro _ ⟨iq, rfl⟩
                            have JF := hide (hJ.out iq)
                            clear hJ hcl hd0 JW cx cy x5 y5
                            generalize F iq = W2 at *
                            go_wp2
                            go_ret
                            exact ⟨rfl, JF.out.bel⟩
                        · have h1 : ¬ (k : Int) < (a.filled.length : Int) := by omega
                          have D5 : a.filled = b.filled := by
                            apply List.ext_getElem?
                            intro i
                            rcases Nat.lt_or_ge i k with h | h
                            · exact HJ.out i h
                            · rw [List.getElem?_eq_none (by omega), List.getElem?_eq_none (by have := HL5.out; omega)]
                          replace D := hide (And.intro D5 D.out)
                          clear D5 LA5 LB5 EA5 EB5 HL5
                          clear hlt hk
                          go_upto_region 35 with fail
                          clear x5 y5 h1 HJ
                          have J6 := JW
                          clear JW
                          generalize wr = W6 at *
                          go_wp2
                          go_loopw [11] (fun d wr => ∃ k : Nat, k ≤ a.places.length ∧ d = .int .i64 (k : Int) ∧ Hid (∀ j, j < k → a.places[j]? = b.places[j]?) ∧ Hid (Two 50 w wr w.heap.size gh a b sa sb)) (fun d _ => (a.places.length - intOf d).toNat)
                          case atStart => exact ⟨0, Nat.zero_le _, rfl, fun j hj => by omega, J6⟩
                          case round =>
                            clear J6
                            obtain ⟨k, hk, rfl, HJ, JW⟩ := hrel
                            obtain ⟨aa6, ca6, ea6⟩ := HX.out.1.p.form
                            obtain ⟨ab6, cb6, eb6⟩ := HX.out.2.1.p.form
                            have LA6 := hide HX.out.1.p
                            have LB6 := hide HX.out.2.1.p
                            have hl6 := HLL.out.2.2.2.2.2.2.1
                            have x6 := JW.out.x.f21
                            have y6 := JW.out.y.f21
                            rw [ea6] at x6 LA6
                            rw [eb6] at y6 LB6
                            have EA6 := hide ea6
                            have EB6 := hide eb6
                            have HL6 := hide hl6
                            clear ea6 eb6 hl6
                            by_cases hlt : k < a.places.length
                            · have h1 : (k : Int) < (a.places.length : Int) := by omega
                              have h2 : (k : Int) < (b.places.length : Int) := by have := HL6.out; omega
                              have h3 : (0 : Int) ≤ (k : Int) := by omega
                              have hfa := HX.out.2.2.p
                              have e1 : IntKind.i64.wrap ((k : Int) + 1) = k + 1 := wrapI _ (by omega) (by omega)
                              have hlb : k < b.places.length := by have := HL6.out; omega
                              obtain ⟨ga, oa, rfl⟩ := LA6.out.base (by omega)
                              obtain ⟨gb, ob, rfl⟩ := LB6.out.base (by omega)
                              have KK := hide (And.intro (show k + 1 ≤ a.places.length by omega) (show ((a.places.length : Int) - ((k : Int) + 1)).toNat < ((a.places.length : Int) - (k : Int)).toNat by omega))
                              have HX : Hid (a.places[k]? = some a.places[k]) := List.getElem?_eq_getElem hlt
                              have HY : Hid (b.places[k]? = some b.places[k]) := List.getElem?_eq_getElem hlb
                              have ca2 := (LA6.out.below JW.out.bel).cellX k hlt rfl rfl
                              have cb2 := (LB6.out.below JW.out.bel).cellX k hlb rfl rfl
                              generalize a.places[k] = x at *
                              generalize b.places[k] = y at *
                              clear hlt hlb hk hfa
                              by_cases hxy : x = y
                              · have HN : Hid (∀ j, j < k + 1 → a.places[j]? = b.places[j]?) := fun j hj => by
                                  rcases Nat.lt_or_ge j k with h | h
                                  · exact HJ.out j h
                                  · rw [show j = k by omega, HX.out, HY.out, hxy]
                                have q1 : (x != y) = false := by rw [hxy]; simp
                                clear HX HY
                                go_upto_region 38 with fail
                                go_quiet (fail)
                                have JF := hide (JW.out.next (below_drewN (Below.refl _ _) nq))
                                go_wp2
                                exact ⟨⟨k + 1, KK.out.1, by go_num, HN, JF⟩, by simpa [intOf] using KK.out.2⟩
                              · have hr : r = false := by
                                  have hne : ¬ a.places = b.places := fun h => hxy (Option.some.inj (HX.out.symm.trans ((congrArg (fun l => l[k]?) h).trans HY.out)))
                                  rw [HR.out]
                                  unfold eqL
                                  rw [decide_eq_false hne]
                                  simp only [Bool.and_false, Bool.false_and]
                                subst hr
                                have q1 : (x != y) = true := by rw [bne_iff_ne]; exact hxy
                                clear HX HY
                                go_upto_region 38 with fail
                                go_quiet (fail)
                                have JF := hide (JW.out.next (below_drewN (Below.refl _ _) nq))
                                go_wp2
                                go_ret
                                exact ⟨rfl, JF.out.bel⟩
                            · have h1 : ¬ (k : Int) < (a.places.length : Int) := by omega
                              have D6 : a.places = b.places := by
                                apply List.ext_getElem?
                                intro i
                                rcases Nat.lt_or_ge i k with h | h
                                · exact HJ.out i h
                                · rw [List.getElem?_eq_none (by omega), List.getElem?_eq_none (by have := HL6.out; omega)]
                              replace D := hide (And.intro D6 D.out)
                              clear D6 LA6 LB6 EA6 EB6 HL6
                              clear hlt hk
                              go_upto_region 40 with fail
                              clear x6 y6 h1 HJ
                              have J7 := JW
                              clear JW
                              generalize wr = W7 at *
                              go_wp2
                              go_loopw [12] (fun d wr => ∃ k : Nat, k ≤ a.raws.length ∧ d = .int .i64 (k : Int) ∧ Hid (∀ j, j < k → a.raws[j]? = b.raws[j]?) ∧ Hid (Two 50 w wr w.heap.size gh a b sa sb)) (fun d _ => (a.raws.length - intOf d).toNat)
                              case atStart => exact ⟨0, Nat.zero_le _, rfl, fun j hj => by omega, J7⟩
                              case round =>
                                clear J7
                                obtain ⟨k, hk, rfl, HJ, JW⟩ := hrel
                                obtain ⟨aa7, ca7, ea7⟩ := HX.out.1.r.form
                                obtain ⟨ab7, cb7, eb7⟩ := HX.out.2.1.r.form
                                have LA7 := hide HX.out.1.r
                                have LB7 := hide HX.out.2.1.r
                                have hl7 := HLL.out.2.2.2.2.2.2.2
                                have x7 := JW.out.x.f22
                                have y7 := JW.out.y.f22
                                rw [ea7] at x7 LA7
                                rw [eb7] at y7 LB7
                                have EA7 := hide ea7
                                have EB7 := hide eb7
                                have HL7 := hide hl7
                                clear ea7 eb7 hl7
                                by_cases hlt : k < a.raws.length
                                · have h1 : (k : Int) < (a.raws.length : Int) := by omega
                                  have h2 : (k : Int) < (b.raws.length : Int) := by have := HL7.out; omega
                                  have h3 : (0 : Int) ≤ (k : Int) := by omega
                                  have hfa := HX.out.2.2.r
                                  have e1 : IntKind.i64.wrap ((k : Int) + 1) = k + 1 := wrapI _ (by omega) (by omega)
                                  have hlb : k < b.raws.length := by have := HL7.out; omega
                                  obtain ⟨ga, oa, rfl⟩ := LA7.out.base (by omega)
                                  obtain ⟨gb, ob, rfl⟩ := LB7.out.base (by omega)
                                  have KK := hide (And.intro (show k + 1 ≤ a.raws.length by omega) (show ((a.raws.length : Int) - ((k : Int) + 1)).toNat < ((a.raws.length : Int) - (k : Int)).toNat by omega))
                                  have HX : Hid (a.raws[k]? = some a.raws[k]) := List.getElem?_eq_getElem hlt
                                  have HY : Hid (b.raws[k]? = some b.raws[k]) := List.getElem?_eq_getElem hlb
                                  have ca2 := (LA7.out.below JW.out.bel).cellX k hlt rfl rfl
                                  have cb2 := (LB7.out.below JW.out.bel).cellX k hlb rfl rfl
                                  generalize a.raws[k] = x at *
                                  generalize b.raws[k] = y at *
                                  clear hlt hlb hk hfa
                                  by_cases hxy : x = y
                                  · have HN : Hid (∀ j, j < k + 1 → a.raws[j]? = b.raws[j]?) := fun j hj => by
                                      rcases Nat.lt_or_ge j k with h | h
                                      · exact HJ.out j h
                                      · rw [show j = k by omega, HX.out, HY.out, hxy]
                                    have q1 : (x.toList == y.toList) = true := by rw [hxy]; simp
                                    clear HX HY
                                    go_upto_region 43 with fail
                                    go_quiet (fail)
                                    have JF := hide (JW.out.next (below_drewN (Below.refl _ _) nq))
                                    go_wp2
                                    exact ⟨⟨k + 1, KK.out.1, by go_num, HN, JF⟩, by simpa [intOf] using KK.out.2⟩
                                  · have hr : r = false := by
                                      have hne : ¬ a.raws = b.raws := fun h => hxy (Option.some.inj (HX.out.symm.trans ((congrArg (fun l => l[k]?) h).trans HY.out)))
                                      rw [HR.out]
                                      unfold eqL
                                      rw [decide_eq_false hne]
                                      simp only [Bool.and_false, Bool.false_and]
                                    subst hr
                                    have q1 : (x.toList == y.toList) = false := by rw [bytes_same]; exact decide_eq_false hxy
                                    clear HX HY
                                    go_upto_region 43 with fail
                                    go_quiet (fail)
                                    have JF := hide (JW.out.next (below_drewN (Below.refl _ _) nq))
                                    go_wp2
                                    go_ret
                                    exact ⟨rfl, JF.out.bel⟩
                                · have h1 : ¬ (k : Int) < (a.raws.length : Int) := by omega
                                  have D7 : a.raws = b.raws := by
                                    apply List.ext_getElem?
                                    intro i
                                    rcases Nat.lt_or_ge i k with h | h
                                    · exact HJ.out i h
                                    · rw [List.getElem?_eq_none (by omega), List.getElem?_eq_none (by have := HL7.out; omega)]
                                  replace D := hide (And.intro D7 D.out)
                                  clear D7 LA7 LB7 EA7 EB7 HL7
                                  clear hlt hk
                                  have hr : r = true := by
                                    rw [HR.out]
                                    unfold eqL
                                    simp only [decide_eq_true D.out.2.2.2.2.2.2.2.1, decide_eq_true D.out.2.2.2.2.2.2.1, decide_eq_true D.out.2.2.2.2.2.1, decide_eq_true D.out.2.2.2.2.1, decide_eq_true D.out.2.2.2.1, decide_eq_true D.out.2.2.1, decide_eq_true D.out.2.1, decide_eq_true D.out.1, Bool.and_self]
                                  subst hr
                                  go_wp2
                                  go_ret
                                  exact ⟨rfl, JW.out.bel⟩
end
end Go.Proofs.YtkoidjaaojmcnaaGreat
