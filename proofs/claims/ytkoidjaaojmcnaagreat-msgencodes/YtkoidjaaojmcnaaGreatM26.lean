/- The document's Same: its contract. The document's many: is there more than there may be. -/
import Derived.Test.YtkoidjaaojmcnaaGreatM22
import Derived.Test.YtkoidjaaojmcnaaGreatM23
import Derived.Test.YtkoidjaaojmcnaaGreatM24
import Derived.Test.YtkoidjaaojmcnaaGreatM25
namespace Go.Proofs.YtkoidjaaojmcnaaGreat
open Go.RowKit
open Go.Deep
set_option linter.unusedSimpArgs false
theorem rsame_any (a b : Mg) (sa sb : Vs) (w : World) (ha : MR w sa a) (hb : MR w sb b) (fa : a.fit) :
    Calls Tryz.prog 12 #[.agg (a.cells sa).toArray, .agg (b.cells sb).toArray] w fun e w' => e = .returned (.bool (decide (a = b))) ∧ Below w.heap.size w w' := by
  rw [← eqM_iff]
  unfold eqM
  cases q0 : a.kind == b.kind
  case' false =>
    simp only [Bool.false_and, Bool.and_false]
    exact rsame_0 a b sa sb w q0
  cases q1 : (a.vers.toNat : Int) == (b.vers.toNat : Int)
  case' false =>
    simp only [Bool.false_and, Bool.and_false]
    exact rsame_1 a b sa sb w q0 q1
  cases q2 : (a.serv.toNat : Int) == (b.serv.toNat : Int)
  case' false =>
    simp only [Bool.false_and, Bool.and_false]
    exact rsame_2 a b sa sb w q0 q1 q2
  cases q3 : (a.nonce.toNat : Int) == (b.nonce.toNat : Int)
  case' false =>
    simp only [Bool.false_and, Bool.and_false]
    exact rsame_3 a b sa sb w q0 q1 q2 q3
  cases q4 : a.time == b.time
  case' false =>
    simp only [Bool.false_and, Bool.and_false]
    exact rsame_4 a b sa sb w q0 q1 q2 q3 q4
  cases q5 : decide (a.dst = b.dst)
  case' false =>
    simp only [Bool.false_and, Bool.and_false]
    exact rsame_5 a b sa sb w q0 q1 q2 q3 q4 q5
  cases q6 : decide (a.src = b.src)
  case' false =>
    simp only [Bool.false_and, Bool.and_false]
    exact rsame_6 a b sa sb w q0 q1 q2 q3 q4 q5 q6
  cases q7 : a.agent.toList == b.agent.toList
  case' false =>
    simp only [Bool.false_and, Bool.and_false]
    exact rsame_7 a b sa sb w q0 q1 q2 q3 q4 q5 q6 q7
  cases q8 : (a.height.toNat : Int) == (b.height.toNat : Int)
  case' false =>
    simp only [Bool.false_and, Bool.and_false]
    exact rsame_8 a b sa sb w q0 q1 q2 q3 q4 q5 q6 q7 q8
  cases q9 : a.relay == b.relay
  case' false =>
    simp only [Bool.false_and, Bool.and_false]
    exact rsame_9 a b sa sb w q0 q1 q2 q3 q4 q5 q6 q7 q8 q9
  cases q10 : a.high == b.high
  case' false =>
    simp only [Bool.false_and, Bool.and_false]
    exact rsame_10 a b sa sb w q0 q1 q2 q3 q4 q5 q6 q7 q8 q9 q10
  cases q11 : decide (a.stop = b.stop)
  case' false =>
    simp only [Bool.false_and, Bool.and_false]
    exact rsame_11 a b sa sb w q0 q1 q2 q3 q4 q5 q6 q7 q8 q9 q10 q11
  cases q12 : decide (a.hash = b.hash)
  case' false =>
    simp only [Bool.false_and, Bool.and_false]
    exact rsame_12 a b sa sb w q0 q1 q2 q3 q4 q5 q6 q7 q8 q9 q10 q11 q12
  cases q13 : a.head.toList == b.head.toList
  case' false =>
    simp only [Bool.false_and, Bool.and_false]
    exact rsame_13 a b sa sb w q0 q1 q2 q3 q4 q5 q6 q7 q8 q9 q10 q11 q12 q13
  cases q14 : a.raw.toList == b.raw.toList
  case' false =>
    simp only [Bool.false_and, Bool.and_false]
    exact rsame_14 a b sa sb w q0 q1 q2 q3 q4 q5 q6 q7 q8 q9 q10 q11 q12 q13 q14
  simp only [Bool.true_and, Bool.and_true]
  exact rsame_15 a b sa sb w ha hb fa q0 q1 q2 q3 q4 q5 q6 q7 q8 q9 q10 q11 q12 q13 q14
end Go.Proofs.YtkoidjaaojmcnaaGreat
namespace Go.Proofs.YtkoidjaaojmcnaaGreat
open Go.RowKit
open Go.Deep
/-- Is there more than there may be, whatever the kind? -/
def Mg.manyB (m : Mg) : Bool := decide (100 < m.addrs.length) || (decide (500 < m.items.length) || (decide (64 < m.hashes.length) || (decide (100 < m.heads.length) || (decide (500 < m.shorts.length) || (decide (500 < m.filled.length) || (decide (500 < m.places.length) || (decide (500 < m.raws.length) || (decide (64 < m.agent.size) || (m.filled.any (fun x : Fd => decide (4096 < x.raw.size)) || m.raws.any (fun x : ByteArray => decide (4096 < x.size)))))))))))
section
set_option maxRecDepth 10000
set_option maxHeartbeats 4000000
theorem many_0 (m : Mg) (s : Vs) (w : World) (hR : MR w s m) (y : 100 < m.addrs.length) : Calls Tryz.prog 23 #[.agg (m.cells s).toArray] w fun e w' => e = .returned (.bool true) ∧ Below w.heap.size w w' := by
  have B1 := hide ((Below.refl w.heap.size w).alloc (Nat.le_refl _) (.cells (m.cells s).toArray 50))
  have MC := hide (Mc.of (m := m) (s := s) (heap_alloc_last w (.cells (m.cells s).toArray 50)))
  obtain ⟨ao0, ca0, ea0⟩ := hR.a.form
  have c0 := MC.out.f11
  rw [ea0] at c0
  have h0 : (m.addrs.length : Int) > 100 := by omega
  clear MC hR y ea0
  go_enter Tryz.func23, Tryz.ntmps23
  go_wp2_with (with_reducible refine at_list ?_; refine wpList_boxA rfl _ rfl (m.cells s).toArray rfl ?_)
  go_ret
  exact ⟨rfl, B1.out⟩
theorem many_1 (m : Mg) (s : Vs) (w : World) (hR : MR w s m) (n0 : ¬ 100 < m.addrs.length) (y : 500 < m.items.length) : Calls Tryz.prog 23 #[.agg (m.cells s).toArray] w fun e w' => e = .returned (.bool true) ∧ Below w.heap.size w w' := by
  have B1 := hide ((Below.refl w.heap.size w).alloc (Nat.le_refl _) (.cells (m.cells s).toArray 50))
  have MC := hide (Mc.of (m := m) (s := s) (heap_alloc_last w (.cells (m.cells s).toArray 50)))
  obtain ⟨ao0, ca0, ea0⟩ := hR.a.form
  have c0 := MC.out.f11
  rw [ea0] at c0
  have h0 : ¬ (m.addrs.length : Int) > 100 := by omega
  obtain ⟨ao1, ca1, ea1⟩ := hR.i.form
  have c1 := MC.out.f12
  rw [ea1] at c1
  have h1 : (m.items.length : Int) > 500 := by omega
  clear MC hR y n0 ea0 ea1
  go_enter Tryz.func23, Tryz.ntmps23
  go_wp2_with (with_reducible refine at_list ?_; refine wpList_boxA rfl _ rfl (m.cells s).toArray rfl ?_)
  go_ret
  exact ⟨rfl, B1.out⟩
theorem many_2 (m : Mg) (s : Vs) (w : World) (hR : MR w s m) (n0 : ¬ 100 < m.addrs.length) (n1 : ¬ 500 < m.items.length) (y : 64 < m.hashes.length) : Calls Tryz.prog 23 #[.agg (m.cells s).toArray] w fun e w' => e = .returned (.bool true) ∧ Below w.heap.size w w' := by
  have B1 := hide ((Below.refl w.heap.size w).alloc (Nat.le_refl _) (.cells (m.cells s).toArray 50))
  have MC := hide (Mc.of (m := m) (s := s) (heap_alloc_last w (.cells (m.cells s).toArray 50)))
  obtain ⟨ao0, ca0, ea0⟩ := hR.a.form
  have c0 := MC.out.f11
  rw [ea0] at c0
  have h0 : ¬ (m.addrs.length : Int) > 100 := by omega
  obtain ⟨ao1, ca1, ea1⟩ := hR.i.form
  have c1 := MC.out.f12
  rw [ea1] at c1
  have h1 : ¬ (m.items.length : Int) > 500 := by omega
  obtain ⟨ao2, ca2, ea2⟩ := hR.h.form
  have c2 := MC.out.f13
  rw [ea2] at c2
  have h2 : (m.hashes.length : Int) > 64 := by omega
  clear MC hR y n0 n1 ea0 ea1 ea2
  go_enter Tryz.func23, Tryz.ntmps23
  go_wp2_with (with_reducible refine at_list ?_; refine wpList_boxA rfl _ rfl (m.cells s).toArray rfl ?_)
  go_ret
  exact ⟨rfl, B1.out⟩
theorem many_3 (m : Mg) (s : Vs) (w : World) (hR : MR w s m) (n0 : ¬ 100 < m.addrs.length) (n1 : ¬ 500 < m.items.length) (n2 : ¬ 64 < m.hashes.length) (y : 100 < m.heads.length) : Calls Tryz.prog 23 #[.agg (m.cells s).toArray] w fun e w' => e = .returned (.bool true) ∧ Below w.heap.size w w' := by
  have B1 := hide ((Below.refl w.heap.size w).alloc (Nat.le_refl _) (.cells (m.cells s).toArray 50))
  have MC := hide (Mc.of (m := m) (s := s) (heap_alloc_last w (.cells (m.cells s).toArray 50)))
  obtain ⟨ao0, ca0, ea0⟩ := hR.a.form
  have c0 := MC.out.f11
  rw [ea0] at c0
  have h0 : ¬ (m.addrs.length : Int) > 100 := by omega
  obtain ⟨ao1, ca1, ea1⟩ := hR.i.form
  have c1 := MC.out.f12
  rw [ea1] at c1
  have h1 : ¬ (m.items.length : Int) > 500 := by omega
  obtain ⟨ao2, ca2, ea2⟩ := hR.h.form
  have c2 := MC.out.f13
  rw [ea2] at c2
  have h2 : ¬ (m.hashes.length : Int) > 64 := by omega
  obtain ⟨ao3, ca3, ea3⟩ := hR.hd.form
  have c3 := MC.out.f16
  rw [ea3] at c3
  have h3 : (m.heads.length : Int) > 100 := by omega
  clear MC hR y n0 n1 n2 ea0 ea1 ea2 ea3
  go_enter Tryz.func23, Tryz.ntmps23
  go_wp2_with (with_reducible refine at_list ?_; refine wpList_boxA rfl _ rfl (m.cells s).toArray rfl ?_)
  go_ret
  exact ⟨rfl, B1.out⟩
theorem many_4 (m : Mg) (s : Vs) (w : World) (hR : MR w s m) (n0 : ¬ 100 < m.addrs.length) (n1 : ¬ 500 < m.items.length) (n2 : ¬ 64 < m.hashes.length) (n3 : ¬ 100 < m.heads.length) (y : 500 < m.shorts.length) : Calls Tryz.prog 23 #[.agg (m.cells s).toArray] w fun e w' => e = .returned (.bool true) ∧ Below w.heap.size w w' := by
  have B1 := hide ((Below.refl w.heap.size w).alloc (Nat.le_refl _) (.cells (m.cells s).toArray 50))
  have MC := hide (Mc.of (m := m) (s := s) (heap_alloc_last w (.cells (m.cells s).toArray 50)))
  obtain ⟨ao0, ca0, ea0⟩ := hR.a.form
  have c0 := MC.out.f11
  rw [ea0] at c0
  have h0 : ¬ (m.addrs.length : Int) > 100 := by omega
  obtain ⟨ao1, ca1, ea1⟩ := hR.i.form
  have c1 := MC.out.f12
  rw [ea1] at c1
  have h1 : ¬ (m.items.length : Int) > 500 := by omega
  obtain ⟨ao2, ca2, ea2⟩ := hR.h.form
  have c2 := MC.out.f13
  rw [ea2] at c2
  have h2 : ¬ (m.hashes.length : Int) > 64 := by omega
  obtain ⟨ao3, ca3, ea3⟩ := hR.hd.form
  have c3 := MC.out.f16
  rw [ea3] at c3
  have h3 : ¬ (m.heads.length : Int) > 100 := by omega
  obtain ⟨ao4, ca4, ea4⟩ := hR.sh.form
  have c4 := MC.out.f19
  rw [ea4] at c4
  have h4 : (m.shorts.length : Int) > 500 := by omega
  clear MC hR y n0 n1 n2 n3 ea0 ea1 ea2 ea3 ea4
  go_enter Tryz.func23, Tryz.ntmps23
  go_wp2_with (with_reducible refine at_list ?_; refine wpList_boxA rfl _ rfl (m.cells s).toArray rfl ?_)
  go_ret
  exact ⟨rfl, B1.out⟩
theorem many_5 (m : Mg) (s : Vs) (w : World) (hR : MR w s m) (n0 : ¬ 100 < m.addrs.length) (n1 : ¬ 500 < m.items.length) (n2 : ¬ 64 < m.hashes.length) (n3 : ¬ 100 < m.heads.length) (n4 : ¬ 500 < m.shorts.length) (y : 500 < m.filled.length) : Calls Tryz.prog 23 #[.agg (m.cells s).toArray] w fun e w' => e = .returned (.bool true) ∧ Below w.heap.size w w' := by
  have B1 := hide ((Below.refl w.heap.size w).alloc (Nat.le_refl _) (.cells (m.cells s).toArray 50))
  have MC := hide (Mc.of (m := m) (s := s) (heap_alloc_last w (.cells (m.cells s).toArray 50)))
  obtain ⟨ao0, ca0, ea0⟩ := hR.a.form
  have c0 := MC.out.f11
  rw [ea0] at c0
  have h0 : ¬ (m.addrs.length : Int) > 100 := by omega
  obtain ⟨ao1, ca1, ea1⟩ := hR.i.form
  have c1 := MC.out.f12
  rw [ea1] at c1
  have h1 : ¬ (m.items.length : Int) > 500 := by omega
  obtain ⟨ao2, ca2, ea2⟩ := hR.h.form
  have c2 := MC.out.f13
  rw [ea2] at c2
  have h2 : ¬ (m.hashes.length : Int) > 64 := by omega
  obtain ⟨ao3, ca3, ea3⟩ := hR.hd.form
  have c3 := MC.out.f16
  rw [ea3] at c3
  have h3 : ¬ (m.heads.length : Int) > 100 := by omega
  obtain ⟨ao4, ca4, ea4⟩ := hR.sh.form
  have c4 := MC.out.f19
  rw [ea4] at c4
  have h4 : ¬ (m.shorts.length : Int) > 500 := by omega
  obtain ⟨ao5, ca5, ea5⟩ := hR.f.form
  have c5 := MC.out.f20
  rw [ea5] at c5
  have h5 : (m.filled.length : Int) > 500 := by omega
  clear MC hR y n0 n1 n2 n3 n4 ea0 ea1 ea2 ea3 ea4 ea5
  go_enter Tryz.func23, Tryz.ntmps23
  go_wp2_with (with_reducible refine at_list ?_; refine wpList_boxA rfl _ rfl (m.cells s).toArray rfl ?_)
  go_ret
  exact ⟨rfl, B1.out⟩
theorem many_6 (m : Mg) (s : Vs) (w : World) (hR : MR w s m) (n0 : ¬ 100 < m.addrs.length) (n1 : ¬ 500 < m.items.length) (n2 : ¬ 64 < m.hashes.length) (n3 : ¬ 100 < m.heads.length) (n4 : ¬ 500 < m.shorts.length) (n5 : ¬ 500 < m.filled.length) (y : 500 < m.places.length) : Calls Tryz.prog 23 #[.agg (m.cells s).toArray] w fun e w' => e = .returned (.bool true) ∧ Below w.heap.size w w' := by
  have B1 := hide ((Below.refl w.heap.size w).alloc (Nat.le_refl _) (.cells (m.cells s).toArray 50))
  have MC := hide (Mc.of (m := m) (s := s) (heap_alloc_last w (.cells (m.cells s).toArray 50)))
  obtain ⟨ao0, ca0, ea0⟩ := hR.a.form
  have c0 := MC.out.f11
  rw [ea0] at c0
  have h0 : ¬ (m.addrs.length : Int) > 100 := by omega
  obtain ⟨ao1, ca1, ea1⟩ := hR.i.form
  have c1 := MC.out.f12
  rw [ea1] at c1
  have h1 : ¬ (m.items.length : Int) > 500 := by omega
  obtain ⟨ao2, ca2, ea2⟩ := hR.h.form
  have c2 := MC.out.f13
  rw [ea2] at c2
  have h2 : ¬ (m.hashes.length : Int) > 64 := by omega
  obtain ⟨ao3, ca3, ea3⟩ := hR.hd.form
  have c3 := MC.out.f16
  rw [ea3] at c3
  have h3 : ¬ (m.heads.length : Int) > 100 := by omega
  obtain ⟨ao4, ca4, ea4⟩ := hR.sh.form
  have c4 := MC.out.f19
  rw [ea4] at c4
  have h4 : ¬ (m.shorts.length : Int) > 500 := by omega
  obtain ⟨ao5, ca5, ea5⟩ := hR.f.form
  have c5 := MC.out.f20
  rw [ea5] at c5
  have h5 : ¬ (m.filled.length : Int) > 500 := by omega
  obtain ⟨ao6, ca6, ea6⟩ := hR.p.form
  have c6 := MC.out.f21
  rw [ea6] at c6
  have h6 : (m.places.length : Int) > 500 := by omega
  clear MC hR y n0 n1 n2 n3 n4 n5 ea0 ea1 ea2 ea3 ea4 ea5 ea6
  go_enter Tryz.func23, Tryz.ntmps23
  go_wp2_with (with_reducible refine at_list ?_; refine wpList_boxA rfl _ rfl (m.cells s).toArray rfl ?_)
  go_ret
  exact ⟨rfl, B1.out⟩
theorem many_7 (m : Mg) (s : Vs) (w : World) (hR : MR w s m) (n0 : ¬ 100 < m.addrs.length) (n1 : ¬ 500 < m.items.length) (n2 : ¬ 64 < m.hashes.length) (n3 : ¬ 100 < m.heads.length) (n4 : ¬ 500 < m.shorts.length) (n5 : ¬ 500 < m.filled.length) (n6 : ¬ 500 < m.places.length) (y : 500 < m.raws.length) : Calls Tryz.prog 23 #[.agg (m.cells s).toArray] w fun e w' => e = .returned (.bool true) ∧ Below w.heap.size w w' := by
  have B1 := hide ((Below.refl w.heap.size w).alloc (Nat.le_refl _) (.cells (m.cells s).toArray 50))
  have MC := hide (Mc.of (m := m) (s := s) (heap_alloc_last w (.cells (m.cells s).toArray 50)))
  obtain ⟨ao0, ca0, ea0⟩ := hR.a.form
  have c0 := MC.out.f11
  rw [ea0] at c0
  have h0 : ¬ (m.addrs.length : Int) > 100 := by omega
  obtain ⟨ao1, ca1, ea1⟩ := hR.i.form
  have c1 := MC.out.f12
  rw [ea1] at c1
  have h1 : ¬ (m.items.length : Int) > 500 := by omega
  obtain ⟨ao2, ca2, ea2⟩ := hR.h.form
  have c2 := MC.out.f13
  rw [ea2] at c2
  have h2 : ¬ (m.hashes.length : Int) > 64 := by omega
  obtain ⟨ao3, ca3, ea3⟩ := hR.hd.form
  have c3 := MC.out.f16
  rw [ea3] at c3
  have h3 : ¬ (m.heads.length : Int) > 100 := by omega
  obtain ⟨ao4, ca4, ea4⟩ := hR.sh.form
  have c4 := MC.out.f19
  rw [ea4] at c4
  have h4 : ¬ (m.shorts.length : Int) > 500 := by omega
  obtain ⟨ao5, ca5, ea5⟩ := hR.f.form
  have c5 := MC.out.f20
  rw [ea5] at c5
  have h5 : ¬ (m.filled.length : Int) > 500 := by omega
  obtain ⟨ao6, ca6, ea6⟩ := hR.p.form
  have c6 := MC.out.f21
  rw [ea6] at c6
  have h6 : ¬ (m.places.length : Int) > 500 := by omega
  obtain ⟨ao7, ca7, ea7⟩ := hR.r.form
  have c7 := MC.out.f22
  rw [ea7] at c7
  have h7 : (m.raws.length : Int) > 500 := by omega
  clear MC hR y n0 n1 n2 n3 n4 n5 n6 ea0 ea1 ea2 ea3 ea4 ea5 ea6 ea7
  go_enter Tryz.func23, Tryz.ntmps23
  go_wp2_with (with_reducible refine at_list ?_; refine wpList_boxA rfl _ rfl (m.cells s).toArray rfl ?_)
  go_ret
  exact ⟨rfl, B1.out⟩
theorem many_8 (m : Mg) (s : Vs) (w : World) (hR : MR w s m) (n0 : ¬ 100 < m.addrs.length) (n1 : ¬ 500 < m.items.length) (n2 : ¬ 64 < m.hashes.length) (n3 : ¬ 100 < m.heads.length) (n4 : ¬ 500 < m.shorts.length) (n5 : ¬ 500 < m.filled.length) (n6 : ¬ 500 < m.places.length) (n7 : ¬ 500 < m.raws.length) (y : 64 < m.agent.size) : Calls Tryz.prog 23 #[.agg (m.cells s).toArray] w fun e w' => e = .returned (.bool true) ∧ Below w.heap.size w w' := by
  have B1 := hide ((Below.refl w.heap.size w).alloc (Nat.le_refl _) (.cells (m.cells s).toArray 50))
  have MC := hide (Mc.of (m := m) (s := s) (heap_alloc_last w (.cells (m.cells s).toArray 50)))
  obtain ⟨ao0, ca0, ea0⟩ := hR.a.form
  have c0 := MC.out.f11
  rw [ea0] at c0
  have h0 : ¬ (m.addrs.length : Int) > 100 := by omega
  obtain ⟨ao1, ca1, ea1⟩ := hR.i.form
  have c1 := MC.out.f12
  rw [ea1] at c1
  have h1 : ¬ (m.items.length : Int) > 500 := by omega
  obtain ⟨ao2, ca2, ea2⟩ := hR.h.form
  have c2 := MC.out.f13
  rw [ea2] at c2
  have h2 : ¬ (m.hashes.length : Int) > 64 := by omega
  obtain ⟨ao3, ca3, ea3⟩ := hR.hd.form
  have c3 := MC.out.f16
  rw [ea3] at c3
  have h3 : ¬ (m.heads.length : Int) > 100 := by omega
  obtain ⟨ao4, ca4, ea4⟩ := hR.sh.form
  have c4 := MC.out.f19
  rw [ea4] at c4
  have h4 : ¬ (m.shorts.length : Int) > 500 := by omega
  obtain ⟨ao5, ca5, ea5⟩ := hR.f.form
  have c5 := MC.out.f20
  rw [ea5] at c5
  have h5 : ¬ (m.filled.length : Int) > 500 := by omega
  obtain ⟨ao6, ca6, ea6⟩ := hR.p.form
  have c6 := MC.out.f21
  rw [ea6] at c6
  have h6 : ¬ (m.places.length : Int) > 500 := by omega
  obtain ⟨ao7, ca7, ea7⟩ := hR.r.form
  have c7 := MC.out.f22
  rw [ea7] at c7
  have h7 : ¬ (m.raws.length : Int) > 500 := by omega
  have c8 := MC.out.f7
  have h8 : (m.agent.size : Int) > 64 := by omega
  clear MC hR y n0 n1 n2 n3 n4 n5 n6 n7 ea0 ea1 ea2 ea3 ea4 ea5 ea6 ea7
  go_enter Tryz.func23, Tryz.ntmps23
  go_wp2_with (with_reducible refine at_list ?_; refine wpList_boxA rfl _ rfl (m.cells s).toArray rfl ?_)
  go_ret
  exact ⟨rfl, B1.out⟩
theorem many_9 (m : Mg) (s : Vs) (w : World) (hR : MR w s m) (n0 : ¬ 100 < m.addrs.length) (n1 : ¬ 500 < m.items.length) (n2 : ¬ 64 < m.hashes.length) (n3 : ¬ 100 < m.heads.length) (n4 : ¬ 500 < m.shorts.length) (n5 : ¬ 500 < m.filled.length) (n6 : ¬ 500 < m.places.length) (n7 : ¬ 500 < m.raws.length) (n8 : ¬ 64 < m.agent.size) : Calls Tryz.prog 23 #[.agg (m.cells s).toArray] w fun e w' => e = .returned (.bool (m.filled.any (fun x : Fd => decide (4096 < x.raw.size)) || m.raws.any (fun x : ByteArray => decide (4096 < x.size)))) ∧ Below w.heap.size w w' := by
  have B1 := hide ((Below.refl w.heap.size w).alloc (Nat.le_refl _) (.cells (m.cells s).toArray 50))
  have MC := hide (Mc.of (m := m) (s := s) (heap_alloc_last w (.cells (m.cells s).toArray 50)))
  obtain ⟨ao0, ca0, ea0⟩ := hR.a.form
  have c0 := MC.out.f11
  rw [ea0] at c0
  have h0 : ¬ (m.addrs.length : Int) > 100 := by omega
  obtain ⟨ao1, ca1, ea1⟩ := hR.i.form
  have c1 := MC.out.f12
  rw [ea1] at c1
  have h1 : ¬ (m.items.length : Int) > 500 := by omega
  obtain ⟨ao2, ca2, ea2⟩ := hR.h.form
  have c2 := MC.out.f13
  rw [ea2] at c2
  have h2 : ¬ (m.hashes.length : Int) > 64 := by omega
  obtain ⟨ao3, ca3, ea3⟩ := hR.hd.form
  have c3 := MC.out.f16
  rw [ea3] at c3
  have h3 : ¬ (m.heads.length : Int) > 100 := by omega
  obtain ⟨ao4, ca4, ea4⟩ := hR.sh.form
  have c4 := MC.out.f19
  rw [ea4] at c4
  have h4 : ¬ (m.shorts.length : Int) > 500 := by omega
  obtain ⟨ao5, ca5, ea5⟩ := hR.f.form
  have c5 := MC.out.f20
  rw [ea5] at c5
  have h5 : ¬ (m.filled.length : Int) > 500 := by omega
  obtain ⟨ao6, ca6, ea6⟩ := hR.p.form
  have c6 := MC.out.f21
  rw [ea6] at c6
  have h6 : ¬ (m.places.length : Int) > 500 := by omega
  obtain ⟨ao7, ca7, ea7⟩ := hR.r.form
  have c7 := MC.out.f22
  rw [ea7] at c7
  have h7 : ¬ (m.raws.length : Int) > 500 := by omega
  have c8 := MC.out.f7
  have h8 : ¬ (m.agent.size : Int) > 64 := by omega
  have XF := hide ((ea5 ▸ hR.f).below B1.out)
  have XR := hide ((ea7 ▸ hR.r).below B1.out)
  have NN := hide (And.intro n5 n7)
  clear MC hR n0 n1 n2 n3 n4 n5 n6 n7 n8 ea0 ea1 ea2 ea3 ea4 ea5 ea6 ea7
  go_enter Tryz.func23, Tryz.ntmps23
  go_upto_region 3 with (with_reducible refine at_list ?_; refine wpList_boxA rfl _ rfl (m.cells s).toArray rfl ?_)
  clear h0 h1 h2 h3 h4 h5 h6 h7 h8 c0 c1 c2 c3 c4 c6 c8
  generalize w.alloc (.cells (m.cells s).toArray 50) = A at *
  go_wp2
  go_loopw [3] (fun i wr => ∃ k : Nat, k ≤ m.filled.length ∧ i = .int .i64 (k : Int) ∧ wr = A ∧ Hid ((m.filled.take k).any (fun x : Fd => decide (4096 < x.raw.size)) = false)) (fun i _ => (m.filled.length - intOf i).toNat)
  case atStart => exact ⟨0, Nat.zero_le _, rfl, rfl, (by show List.any (List.take 0 _) _ = false; rfl)⟩
  case round =>
    obtain ⟨k, hk, rfl, rfl, J⟩ := hrel
    by_cases hlt : k < m.filled.length
    · have h1 : (k : Int) < (m.filled.length : Int) := by omega
      have h2 : (0 : Int) ≤ (k : Int) := by omega
      have h5 := NN.out
      have e1 : IntKind.i64.wrap ((k : Int) + 1) = k + 1 := wrapI _ (by omega) (by omega)
      have KK := hide (And.intro (show k + 1 ≤ m.filled.length by omega) (show ((m.filled.length : Int) - ((k : Int) + 1)).toNat < ((m.filled.length : Int) - (k : Int)).toNat by omega))
      obtain ⟨ga, oa, rfl⟩ := XF.out.base (by omega)
      have hr := XF.out.range k hlt
      have AH := hide (any_here (fun x : Fd => decide (4096 < x.raw.size)) m.filled k hlt)
      have AT := hide (fun h => any_take (fun x : Fd => decide (4096 < x.raw.size)) m.filled k hlt J.out h)
      have cc : wr.cell? ⟨ga, oa + k * 2 + 1, none⟩ = some (.string m.filled[k].raw) := hr 1 _ rfl
      generalize m.filled[k] = x at *
      clear hr hlt hk h5 J
      by_cases hq : 4096 < x.raw.size
      · have h3 : (x.raw.size : Int) > 4096 := by omega
        have AH2 := hide (AH.out (decide_eq_true hq))
        clear AT AH hq
        go_wp2
        go_ret
        exact ⟨by rw [AH2.out]; rfl, B1.out⟩
      · have h3 : ¬ (x.raw.size : Int) > 4096 := by omega
        have AT2 := hide (AT.out (decide_eq_false hq))
        clear AT AH hq
        go_wp2
        exact ⟨⟨k + 1, KK.out.1, by go_num, trivial, AT2⟩, by simpa [intOf] using KK.out.2⟩
    · have h1 : ¬ (k : Int) < (m.filled.length : Int) := by omega
      have AN : Hid (m.filled.any (fun x : Fd => decide (4096 < x.raw.size)) = false) := by
        have := J.out
        rwa [List.take_of_length_le (by omega)] at this
      have AF := AN
      clear J hlt hk XF AN
      go_upto_region 8 with fail
      clear c5 h1
      go_wp2
      go_loopw [4] (fun i wr' => ∃ k : Nat, k ≤ m.raws.length ∧ i = .int .i64 (k : Int) ∧ wr' = wr ∧ Hid ((m.raws.take k).any (fun x : ByteArray => decide (4096 < x.size)) = false)) (fun i _ => (m.raws.length - intOf i).toNat)
      case atStart => exact ⟨0, Nat.zero_le _, rfl, rfl, (by show List.any (List.take 0 _) _ = false; rfl)⟩
      case round =>
        obtain ⟨k2, hk, rfl, rfl, J⟩ := hrel
        by_cases hlt : k2 < m.raws.length
        · have h3 : (k2 : Int) < (m.raws.length : Int) := by omega
          have h2 : (0 : Int) ≤ (k2 : Int) := by omega
          have h5 := NN.out
          have e1 : IntKind.i64.wrap ((k2 : Int) + 1) = k2 + 1 := wrapI _ (by omega) (by omega)
          have KK := hide (And.intro (show k2 + 1 ≤ m.raws.length by omega) (show ((m.raws.length : Int) - ((k2 : Int) + 1)).toNat < ((m.raws.length : Int) - (k2 : Int)).toNat by omega))
          obtain ⟨ga, oa, rfl⟩ := XR.out.base (by omega)
          have hr := XR.out.range k2 hlt
          have AH := hide (any_here (fun x : ByteArray => decide (4096 < x.size)) m.raws k2 hlt)
          have AT := hide (fun h => any_take (fun x : ByteArray => decide (4096 < x.size)) m.raws k2 hlt J.out h)
          have cc : wr.cell? ⟨ga, oa + k2, none⟩ = some (.string m.raws[k2]) := by
            have := hr 0 _ rfl
            simpa [KS] using this
          generalize m.raws[k2] = x at *
          clear hr hlt hk h5 J
          by_cases hq : 4096 < x.size
          · have h4 : (x.size : Int) > 4096 := by omega
            have AH2 := hide (AH.out (decide_eq_true hq))
            clear AT AH hq
            go_wp2
            go_ret
            exact ⟨by rw [AF.out, AH2.out]; rfl, B1.out⟩
          · have h4 : ¬ (x.size : Int) > 4096 := by omega
            have AT2 := hide (AT.out (decide_eq_false hq))
            clear AT AH hq
            go_wp2
            exact ⟨⟨k2 + 1, KK.out.1, by go_num, trivial, AT2⟩, by simpa [intOf] using KK.out.2⟩
        · have h3 : ¬ (k2 : Int) < (m.raws.length : Int) := by omega
          have AN : Hid (m.raws.any (fun x : ByteArray => decide (4096 < x.size)) = false) := by
            have := J.out
            rwa [List.take_of_length_le (by omega)] at this
          clear J hlt hk XR
          go_wp2
          go_ret
          exact ⟨by rw [AF.out, AN.out]; rfl, B1.out⟩
theorem many_any (m : Mg) (s : Vs) (w : World) (hR : MR w s m) : Calls Tryz.prog 23 #[.agg (m.cells s).toArray] w fun e w' => e = .returned (.bool m.manyB) ∧ Below w.heap.size w w' := by
  unfold Mg.manyB
  by_cases n0 : 100 < m.addrs.length
  · rw [decide_eq_true n0, Bool.true_or]; exact many_0 m s w hR  n0
  rw [decide_eq_false n0, Bool.false_or]
  by_cases n1 : 500 < m.items.length
  · rw [decide_eq_true n1, Bool.true_or]; exact many_1 m s w hR n0 n1
  rw [decide_eq_false n1, Bool.false_or]
  by_cases n2 : 64 < m.hashes.length
  · rw [decide_eq_true n2, Bool.true_or]; exact many_2 m s w hR n0 n1 n2
  rw [decide_eq_false n2, Bool.false_or]
  by_cases n3 : 100 < m.heads.length
  · rw [decide_eq_true n3, Bool.true_or]; exact many_3 m s w hR n0 n1 n2 n3
  rw [decide_eq_false n3, Bool.false_or]
  by_cases n4 : 500 < m.shorts.length
  · rw [decide_eq_true n4, Bool.true_or]; exact many_4 m s w hR n0 n1 n2 n3 n4
  rw [decide_eq_false n4, Bool.false_or]
  by_cases n5 : 500 < m.filled.length
  · rw [decide_eq_true n5, Bool.true_or]; exact many_5 m s w hR n0 n1 n2 n3 n4 n5
  rw [decide_eq_false n5, Bool.false_or]
  by_cases n6 : 500 < m.places.length
  · rw [decide_eq_true n6, Bool.true_or]; exact many_6 m s w hR n0 n1 n2 n3 n4 n5 n6
  rw [decide_eq_false n6, Bool.false_or]
  by_cases n7 : 500 < m.raws.length
  · rw [decide_eq_true n7, Bool.true_or]; exact many_7 m s w hR n0 n1 n2 n3 n4 n5 n6 n7
  rw [decide_eq_false n7, Bool.false_or]
  by_cases n8 : 64 < m.agent.size
  · rw [decide_eq_true n8, Bool.true_or]; exact many_8 m s w hR n0 n1 n2 n3 n4 n5 n6 n7 n8
  rw [decide_eq_false n8, Bool.false_or]
  exact many_9 m s w hR n0 n1 n2 n3 n4 n5 n6 n7 n8
end
end Go.Proofs.YtkoidjaaojmcnaaGreat
