/- msg.sameLists: its contract. What msg.Same reads. What the document's Same reads. -/
import Derived.Test.YtkoidjaaojmcnaaGreatM07
namespace Go.Proofs.YtkoidjaaojmcnaaGreat
open Go.RowKit
open Go.Deep
theorem at_list {P : Program} {ops : Array Oper} {Q : Exit → Act → World → Prop} {l : List Oper} {a : Act} {w : World} (h : wpList P ops Q l a w) : wpList P ops Q l a w := h
/-- Two messages in blocks of their own. -/
structure Two (tt : TypeId) (w W : World) (g h : Nat) (a b : Mg) (sa sb : Vs) : Prop where
  x : Mc W g a sa
  y : Mc W h b sb
  rx : W.heap[g]? = some (.cells (a.cells sa).toArray tt (0, 0))
  ry : W.heap[h]? = some (.cells (b.cells sb).toArray tt (0, 0))
  bel : Below w.heap.size w W
theorem Two.next {tt : TypeId} {w W W' : World} {g h : Nat} {a b : Mg} {sa sb : Vs} (j : Two tt w W g h a b sa sb) (k : Below W.heap.size W W') : Two tt w W' g h a b sa sb := by
  have r1 := (k.block _ (lt_heap j.rx)).trans j.rx
  have r2 := (k.block _ (lt_heap j.ry)).trans j.ry
  exact ⟨Mc.of r1, Mc.of r2, r1, r2, below_next j.bel k⟩
theorem Two.start (tt : TypeId) (w : World) (a b : Mg) (sa sb : Vs) : Two tt w ((w.alloc (.cells (a.cells sa).toArray tt)).alloc (.cells (b.cells sb).toArray tt)) w.heap.size (w.heap.size + 1) a b sa sb := by
  rw [show w.heap.size + 1 = (w.alloc (.cells (a.cells sa).toArray tt)).heap.size by simp]
  have e1 := heap_alloc_last w (.cells (a.cells sa).toArray tt)
  have e2 := heap_alloc_last (w.alloc (.cells (a.cells sa).toArray tt)) (.cells (b.cells sb).toArray tt)
  have r1 := (Below.heap_alloc _ (.cells (b.cells sb).toArray tt) _ (lt_heap e1)).trans e1
  exact ⟨Mc.of r1, Mc.of e2, r1, e2, ((Below.refl _ _).alloc (Nat.le_refl _) _).alloc (by simp) _⟩
/-- Whether the lists of two messages are the same. -/
def eqL (a b : Mg) : Bool := decide (a.addrs = b.addrs) && decide (a.items = b.items) && decide (a.hashes = b.hashes) && decide (a.heads = b.heads) && decide (a.shorts = b.shorts) && decide (a.filled = b.filled) && decide (a.places = b.places) && decide (a.raws = b.raws)
section
set_option maxRecDepth 10000
set_option maxHeartbeats 40000000
theorem sameLists_any (a b : Mg) (sa sb : Vs) (w : World) (ha : ML w sa a) (hb : ML w sb b) (fa : a.fit) :
    Calls Tryz.prog 30 #[.agg (a.cells sa).toArray, .agg (b.cells sb).toArray] w fun e w' => e = .returned (.bool (eqL a b)) ∧ Below w.heap.size w w' := by
  have J0 := hide (Two.start 38 w a b sa sb)
  have H0 : Hid (∀ W, Below w.heap.size w W → Calls Tryz.prog 69 #[sa.a, sb.a] W fun e w' => e = .returned (.bool (decide (a.addrs = b.addrs))) ∧ Below W.heap.size W w') := fun W h => equal_net _ _ _ _ W (ha.below h).a (hb.below h).a fa.a
  have H1 : Hid (∀ W, Below w.heap.size w W → Calls Tryz.prog 70 #[sa.i, sb.i] W fun e w' => e = .returned (.bool (decide (a.items = b.items))) ∧ Below W.heap.size W w') := fun W h => equal_item _ _ _ _ W (ha.below h).i (hb.below h).i fa.i
  have H2 : Hid (∀ W, Below w.heap.size w W → Calls Tryz.prog 71 #[sa.h, sb.h] W fun e w' => e = .returned (.bool (decide (a.hashes = b.hashes))) ∧ Below W.heap.size W w') := fun W h => equal_hash _ _ _ _ W (ha.below h).h (hb.below h).h fa.h
  have H3 : Hid (∀ W, Below w.heap.size w W → Calls Tryz.prog 72 #[sa.hd, sb.hd] W fun e w' => e = .returned (.bool (decide (a.heads = b.heads))) ∧ Below W.heap.size W w') := fun W h => equal_string _ _ _ _ W (ha.below h).hd (hb.below h).hd fa.hd
  have H4 : Hid (∀ W, Below w.heap.size w W → Calls Tryz.prog 73 #[sa.sh, sb.sh] W fun e w' => e = .returned (.bool (decide (a.shorts = b.shorts))) ∧ Below W.heap.size W w') := fun W h => equal_u64 _ _ _ _ W (ha.below h).sh (hb.below h).sh fa.sh
  have H5 : Hid (∀ W, Below w.heap.size w W → Calls Tryz.prog 74 #[sa.f, sb.f] W fun e w' => e = .returned (.bool (decide (a.filled = b.filled))) ∧ Below W.heap.size W w') := fun W h => equal_filled _ _ _ _ W (ha.below h).f (hb.below h).f fa.f
  have H6 : Hid (∀ W, Below w.heap.size w W → Calls Tryz.prog 75 #[sa.p, sb.p] W fun e w' => e = .returned (.bool (decide (a.places = b.places))) ∧ Below W.heap.size W w') := fun W h => equal_int _ _ _ _ W (ha.below h).p (hb.below h).p fa.p
  have H7 : Hid (∀ W, Below w.heap.size w W → Calls Tryz.prog 72 #[sa.r, sb.r] W fun e w' => e = .returned (.bool (decide (a.raws = b.raws))) ∧ Below W.heap.size W w') := fun W h => equal_string _ _ _ _ W (ha.below h).r (hb.below h).r fa.r
  unfold eqL
  generalize decide (a.addrs = b.addrs) = b0 at *
  generalize decide (a.items = b.items) = b1 at *
  generalize decide (a.hashes = b.hashes) = b2 at *
  generalize decide (a.heads = b.heads) = b3 at *
  generalize decide (a.shorts = b.shorts) = b4 at *
  generalize decide (a.filled = b.filled) = b5 at *
  generalize decide (a.places = b.places) = b6 at *
  generalize decide (a.raws = b.raws) = b7 at *
  clear ha hb fa
  cases b0
  case' false =>
    go_enter Tryz.func30, Tryz.ntmps30
    go_upto_region 1 with (with_reducible refine at_list ?_; first | refine wpList_boxA rfl _ rfl (a.cells sa).toArray rfl ?_ | refine wpList_boxA rfl _ rfl (b.cells sb).toArray rfl ?_)
    generalize (w.alloc (.cells (a.cells sa).toArray 38)).alloc (.cells (b.cells sb).toArray 38) = W0 at *
    have x0 := J0.out.x.f11
    have y0 := J0.out.y.f11
    go_wp2_with (first | (go_at_call_of 69 sa.a; refine (H0.out _ J0.out.bel).mono ?_; rintro e w1 ⟨rfl, be⟩; have J1 := hide (J0.out.next be); clear be x0 y0; have x1 := J1.out.x.f12; have y1 := J1.out.y.f12))
    go_ret
    exact ⟨by simp, J1.out.bel⟩
  cases b1
  case' false =>
    go_enter Tryz.func30, Tryz.ntmps30
    go_upto_region 1 with (with_reducible refine at_list ?_; first | refine wpList_boxA rfl _ rfl (a.cells sa).toArray rfl ?_ | refine wpList_boxA rfl _ rfl (b.cells sb).toArray rfl ?_)
    generalize (w.alloc (.cells (a.cells sa).toArray 38)).alloc (.cells (b.cells sb).toArray 38) = W0 at *
    have x0 := J0.out.x.f11
    have y0 := J0.out.y.f11
    go_wp2_with (first | (go_at_call_of 69 sa.a; refine (H0.out _ J0.out.bel).mono ?_; rintro e w1 ⟨rfl, be⟩; have J1 := hide (J0.out.next be); clear be x0 y0; have x1 := J1.out.x.f12; have y1 := J1.out.y.f12) | (go_at_call_of 70 sa.i; refine (H1.out _ J1.out.bel).mono ?_; rintro e w2 ⟨rfl, be⟩; have J2 := hide (J1.out.next be); clear be x1 y1; have x2 := J2.out.x.f13; have y2 := J2.out.y.f13))
    go_ret
    exact ⟨by simp, J2.out.bel⟩
  cases b2
  case' false =>
    go_enter Tryz.func30, Tryz.ntmps30
    go_upto_region 1 with (with_reducible refine at_list ?_; first | refine wpList_boxA rfl _ rfl (a.cells sa).toArray rfl ?_ | refine wpList_boxA rfl _ rfl (b.cells sb).toArray rfl ?_)
    generalize (w.alloc (.cells (a.cells sa).toArray 38)).alloc (.cells (b.cells sb).toArray 38) = W0 at *
    have x0 := J0.out.x.f11
    have y0 := J0.out.y.f11
    go_wp2_with (first | (go_at_call_of 69 sa.a; refine (H0.out _ J0.out.bel).mono ?_; rintro e w1 ⟨rfl, be⟩; have J1 := hide (J0.out.next be); clear be x0 y0; have x1 := J1.out.x.f12; have y1 := J1.out.y.f12) | (go_at_call_of 70 sa.i; refine (H1.out _ J1.out.bel).mono ?_; rintro e w2 ⟨rfl, be⟩; have J2 := hide (J1.out.next be); clear be x1 y1; have x2 := J2.out.x.f13; have y2 := J2.out.y.f13) | (go_at_call_of 71 sa.h; refine (H2.out _ J2.out.bel).mono ?_; rintro e w3 ⟨rfl, be⟩; have J3 := hide (J2.out.next be); clear be x2 y2; have x3 := J3.out.x.f16; have y3 := J3.out.y.f16))
    go_ret
    exact ⟨by simp, J3.out.bel⟩
  cases b3
  case' false =>
    go_enter Tryz.func30, Tryz.ntmps30
    go_upto_region 1 with (with_reducible refine at_list ?_; first | refine wpList_boxA rfl _ rfl (a.cells sa).toArray rfl ?_ | refine wpList_boxA rfl _ rfl (b.cells sb).toArray rfl ?_)
    generalize (w.alloc (.cells (a.cells sa).toArray 38)).alloc (.cells (b.cells sb).toArray 38) = W0 at *
    have x0 := J0.out.x.f11
    have y0 := J0.out.y.f11
    go_wp2_with (first | (go_at_call_of 69 sa.a; refine (H0.out _ J0.out.bel).mono ?_; rintro e w1 ⟨rfl, be⟩; have J1 := hide (J0.out.next be); clear be x0 y0; have x1 := J1.out.x.f12; have y1 := J1.out.y.f12) | (go_at_call_of 70 sa.i; refine (H1.out _ J1.out.bel).mono ?_; rintro e w2 ⟨rfl, be⟩; have J2 := hide (J1.out.next be); clear be x1 y1; have x2 := J2.out.x.f13; have y2 := J2.out.y.f13) | (go_at_call_of 71 sa.h; refine (H2.out _ J2.out.bel).mono ?_; rintro e w3 ⟨rfl, be⟩; have J3 := hide (J2.out.next be); clear be x2 y2; have x3 := J3.out.x.f16; have y3 := J3.out.y.f16) | (go_at_call_of 72 sa.hd; refine (H3.out _ J3.out.bel).mono ?_; rintro e w4 ⟨rfl, be⟩; have J4 := hide (J3.out.next be); clear be x3 y3; have x4 := J4.out.x.f19; have y4 := J4.out.y.f19))
    go_ret
    exact ⟨by simp, J4.out.bel⟩
  cases b4
  case' false =>
    go_enter Tryz.func30, Tryz.ntmps30
    go_upto_region 1 with (with_reducible refine at_list ?_; first | refine wpList_boxA rfl _ rfl (a.cells sa).toArray rfl ?_ | refine wpList_boxA rfl _ rfl (b.cells sb).toArray rfl ?_)
    generalize (w.alloc (.cells (a.cells sa).toArray 38)).alloc (.cells (b.cells sb).toArray 38) = W0 at *
    have x0 := J0.out.x.f11
    have y0 := J0.out.y.f11
    go_wp2_with (first | (go_at_call_of 69 sa.a; refine (H0.out _ J0.out.bel).mono ?_; rintro e w1 ⟨rfl, be⟩; have J1 := hide (J0.out.next be); clear be x0 y0; have x1 := J1.out.x.f12; have y1 := J1.out.y.f12) | (go_at_call_of 70 sa.i; refine (H1.out _ J1.out.bel).mono ?_; rintro e w2 ⟨rfl, be⟩; have J2 := hide (J1.out.next be); clear be x1 y1; have x2 := J2.out.x.f13; have y2 := J2.out.y.f13) | (go_at_call_of 71 sa.h; refine (H2.out _ J2.out.bel).mono ?_; rintro e w3 ⟨rfl, be⟩; have J3 := hide (J2.out.next be); clear be x2 y2; have x3 := J3.out.x.f16; have y3 := J3.out.y.f16) | (go_at_call_of 72 sa.hd; refine (H3.out _ J3.out.bel).mono ?_; rintro e w4 ⟨rfl, be⟩; have J4 := hide (J3.out.next be); clear be x3 y3; have x4 := J4.out.x.f19; have y4 := J4.out.y.f19) | (go_at_call_of 73 sa.sh; refine (H4.out _ J4.out.bel).mono ?_; rintro e w5 ⟨rfl, be⟩; have J5 := hide (J4.out.next be); clear be x4 y4; have x5 := J5.out.x.f20; have y5 := J5.out.y.f20))
    go_ret
    exact ⟨by simp, J5.out.bel⟩
  cases b5
  case' false =>
    go_enter Tryz.func30, Tryz.ntmps30
    go_upto_region 1 with (with_reducible refine at_list ?_; first | refine wpList_boxA rfl _ rfl (a.cells sa).toArray rfl ?_ | refine wpList_boxA rfl _ rfl (b.cells sb).toArray rfl ?_)
    generalize (w.alloc (.cells (a.cells sa).toArray 38)).alloc (.cells (b.cells sb).toArray 38) = W0 at *
    have x0 := J0.out.x.f11
    have y0 := J0.out.y.f11
    go_wp2_with (first | (go_at_call_of 69 sa.a; refine (H0.out _ J0.out.bel).mono ?_; rintro e w1 ⟨rfl, be⟩; have J1 := hide (J0.out.next be); clear be x0 y0; have x1 := J1.out.x.f12; have y1 := J1.out.y.f12) | (go_at_call_of 70 sa.i; refine (H1.out _ J1.out.bel).mono ?_; rintro e w2 ⟨rfl, be⟩; have J2 := hide (J1.out.next be); clear be x1 y1; have x2 := J2.out.x.f13; have y2 := J2.out.y.f13) | (go_at_call_of 71 sa.h; refine (H2.out _ J2.out.bel).mono ?_; rintro e w3 ⟨rfl, be⟩; have J3 := hide (J2.out.next be); clear be x2 y2; have x3 := J3.out.x.f16; have y3 := J3.out.y.f16) | (go_at_call_of 72 sa.hd; refine (H3.out _ J3.out.bel).mono ?_; rintro e w4 ⟨rfl, be⟩; have J4 := hide (J3.out.next be); clear be x3 y3; have x4 := J4.out.x.f19; have y4 := J4.out.y.f19) | (go_at_call_of 73 sa.sh; refine (H4.out _ J4.out.bel).mono ?_; rintro e w5 ⟨rfl, be⟩; have J5 := hide (J4.out.next be); clear be x4 y4; have x5 := J5.out.x.f20; have y5 := J5.out.y.f20) | (go_at_call_of 74 sa.f; refine (H5.out _ J5.out.bel).mono ?_; rintro e w6 ⟨rfl, be⟩; have J6 := hide (J5.out.next be); clear be x5 y5; have x6 := J6.out.x.f21; have y6 := J6.out.y.f21))
    go_ret
    exact ⟨by simp, J6.out.bel⟩
  cases b6
  case' false =>
    go_enter Tryz.func30, Tryz.ntmps30
    go_upto_region 1 with (with_reducible refine at_list ?_; first | refine wpList_boxA rfl _ rfl (a.cells sa).toArray rfl ?_ | refine wpList_boxA rfl _ rfl (b.cells sb).toArray rfl ?_)
    generalize (w.alloc (.cells (a.cells sa).toArray 38)).alloc (.cells (b.cells sb).toArray 38) = W0 at *
    have x0 := J0.out.x.f11
    have y0 := J0.out.y.f11
    go_wp2_with (first | (go_at_call_of 69 sa.a; refine (H0.out _ J0.out.bel).mono ?_; rintro e w1 ⟨rfl, be⟩; have J1 := hide (J0.out.next be); clear be x0 y0; have x1 := J1.out.x.f12; have y1 := J1.out.y.f12) | (go_at_call_of 70 sa.i; refine (H1.out _ J1.out.bel).mono ?_; rintro e w2 ⟨rfl, be⟩; have J2 := hide (J1.out.next be); clear be x1 y1; have x2 := J2.out.x.f13; have y2 := J2.out.y.f13) | (go_at_call_of 71 sa.h; refine (H2.out _ J2.out.bel).mono ?_; rintro e w3 ⟨rfl, be⟩; have J3 := hide (J2.out.next be); clear be x2 y2; have x3 := J3.out.x.f16; have y3 := J3.out.y.f16) | (go_at_call_of 72 sa.hd; refine (H3.out _ J3.out.bel).mono ?_; rintro e w4 ⟨rfl, be⟩; have J4 := hide (J3.out.next be); clear be x3 y3; have x4 := J4.out.x.f19; have y4 := J4.out.y.f19) | (go_at_call_of 73 sa.sh; refine (H4.out _ J4.out.bel).mono ?_; rintro e w5 ⟨rfl, be⟩; have J5 := hide (J4.out.next be); clear be x4 y4; have x5 := J5.out.x.f20; have y5 := J5.out.y.f20) | (go_at_call_of 74 sa.f; refine (H5.out _ J5.out.bel).mono ?_; rintro e w6 ⟨rfl, be⟩; have J6 := hide (J5.out.next be); clear be x5 y5; have x6 := J6.out.x.f21; have y6 := J6.out.y.f21) | (go_at_call_of 75 sa.p; refine (H6.out _ J6.out.bel).mono ?_; rintro e w7 ⟨rfl, be⟩; have J7 := hide (J6.out.next be); clear be x6 y6; have x7 := J7.out.x.f22; have y7 := J7.out.y.f22))
    go_ret
    exact ⟨by simp, J7.out.bel⟩
  cases b7
  case' false =>
    go_enter Tryz.func30, Tryz.ntmps30
    go_upto_region 1 with (with_reducible refine at_list ?_; first | refine wpList_boxA rfl _ rfl (a.cells sa).toArray rfl ?_ | refine wpList_boxA rfl _ rfl (b.cells sb).toArray rfl ?_)
    generalize (w.alloc (.cells (a.cells sa).toArray 38)).alloc (.cells (b.cells sb).toArray 38) = W0 at *
    have x0 := J0.out.x.f11
    have y0 := J0.out.y.f11
    go_wp2_with (first | (go_at_call_of 69 sa.a; refine (H0.out _ J0.out.bel).mono ?_; rintro e w1 ⟨rfl, be⟩; have J1 := hide (J0.out.next be); clear be x0 y0; have x1 := J1.out.x.f12; have y1 := J1.out.y.f12) | (go_at_call_of 70 sa.i; refine (H1.out _ J1.out.bel).mono ?_; rintro e w2 ⟨rfl, be⟩; have J2 := hide (J1.out.next be); clear be x1 y1; have x2 := J2.out.x.f13; have y2 := J2.out.y.f13) | (go_at_call_of 71 sa.h; refine (H2.out _ J2.out.bel).mono ?_; rintro e w3 ⟨rfl, be⟩; have J3 := hide (J2.out.next be); clear be x2 y2; have x3 := J3.out.x.f16; have y3 := J3.out.y.f16) | (go_at_call_of 72 sa.hd; refine (H3.out _ J3.out.bel).mono ?_; rintro e w4 ⟨rfl, be⟩; have J4 := hide (J3.out.next be); clear be x3 y3; have x4 := J4.out.x.f19; have y4 := J4.out.y.f19) | (go_at_call_of 73 sa.sh; refine (H4.out _ J4.out.bel).mono ?_; rintro e w5 ⟨rfl, be⟩; have J5 := hide (J4.out.next be); clear be x4 y4; have x5 := J5.out.x.f20; have y5 := J5.out.y.f20) | (go_at_call_of 74 sa.f; refine (H5.out _ J5.out.bel).mono ?_; rintro e w6 ⟨rfl, be⟩; have J6 := hide (J5.out.next be); clear be x5 y5; have x6 := J6.out.x.f21; have y6 := J6.out.y.f21) | (go_at_call_of 75 sa.p; refine (H6.out _ J6.out.bel).mono ?_; rintro e w7 ⟨rfl, be⟩; have J7 := hide (J6.out.next be); clear be x6 y6; have x7 := J7.out.x.f22; have y7 := J7.out.y.f22) | (go_at_call_of 72 sa.r; refine (H7.out _ J7.out.bel).mono ?_; rintro e w8 ⟨rfl, be⟩; have J8 := hide (J7.out.next be); clear be x7 y7))
    go_ret
    exact ⟨by simp, J8.out.bel⟩
  go_enter Tryz.func30, Tryz.ntmps30
  go_upto_region 1 with (with_reducible refine at_list ?_; first | refine wpList_boxA rfl _ rfl (a.cells sa).toArray rfl ?_ | refine wpList_boxA rfl _ rfl (b.cells sb).toArray rfl ?_)
  generalize (w.alloc (.cells (a.cells sa).toArray 38)).alloc (.cells (b.cells sb).toArray 38) = W0 at *
  have x0 := J0.out.x.f11
  have y0 := J0.out.y.f11
  go_wp2_with (first | (go_at_call_of 69 sa.a; refine (H0.out _ J0.out.bel).mono ?_; rintro e w1 ⟨rfl, be⟩; have J1 := hide (J0.out.next be); clear be x0 y0; have x1 := J1.out.x.f12; have y1 := J1.out.y.f12) | (go_at_call_of 70 sa.i; refine (H1.out _ J1.out.bel).mono ?_; rintro e w2 ⟨rfl, be⟩; have J2 := hide (J1.out.next be); clear be x1 y1; have x2 := J2.out.x.f13; have y2 := J2.out.y.f13) | (go_at_call_of 71 sa.h; refine (H2.out _ J2.out.bel).mono ?_; rintro e w3 ⟨rfl, be⟩; have J3 := hide (J2.out.next be); clear be x2 y2; have x3 := J3.out.x.f16; have y3 := J3.out.y.f16) | (go_at_call_of 72 sa.hd; refine (H3.out _ J3.out.bel).mono ?_; rintro e w4 ⟨rfl, be⟩; have J4 := hide (J3.out.next be); clear be x3 y3; have x4 := J4.out.x.f19; have y4 := J4.out.y.f19) | (go_at_call_of 73 sa.sh; refine (H4.out _ J4.out.bel).mono ?_; rintro e w5 ⟨rfl, be⟩; have J5 := hide (J4.out.next be); clear be x4 y4; have x5 := J5.out.x.f20; have y5 := J5.out.y.f20) | (go_at_call_of 74 sa.f; refine (H5.out _ J5.out.bel).mono ?_; rintro e w6 ⟨rfl, be⟩; have J6 := hide (J5.out.next be); clear be x5 y5; have x6 := J6.out.x.f21; have y6 := J6.out.y.f21) | (go_at_call_of 75 sa.p; refine (H6.out _ J6.out.bel).mono ?_; rintro e w7 ⟨rfl, be⟩; have J7 := hide (J6.out.next be); clear be x6 y6; have x7 := J7.out.x.f22; have y7 := J7.out.y.f22) | (go_at_call_of 72 sa.r; refine (H7.out _ J7.out.bel).mono ?_; rintro e w8 ⟨rfl, be⟩; have J8 := hide (J7.out.next be); clear be x7 y7))
  go_ret
  exact ⟨by simp, J8.out.bel⟩
end
end Go.Proofs.YtkoidjaaojmcnaaGreat
namespace Go.Proofs.YtkoidjaaojmcnaaGreat
open Go.RowKit
open Go.Deep
theorem wpLoadX {α : Type} (E : Ek α) {kd : TypeDesc} (hu : Tryz.prog.underlying E.e = some kd) (hkd : kd.isRow = true) {w : World} {ops : Array Oper} {rest : List Oper} {o : Oper} {a : Act} {Q : Exit → Act → World → Prop} (x : Operand) (ho : o.op = .load E.e x) (g off : Nat) (hx : a.eval x = .pointer (some ⟨g, off, none⟩)) (y : α) (hr : w.rangeAt g off (E.enc y)) (hw : Region.wanted o (yielded ops a.tmps) = true)
    (h : wpList Tryz.prog ops Q rest (a.put o.dst (.agg (E.enc y).toArray)) w) : wpList Tryz.prog ops Q (o :: rest) a w := by
  refine wpList_step fun K hK => ?_
  rw [if_pos hw]
  unfold Oper.wp execOp
  simp only [ho, hx, Sem.run_bind, E.load y hu hkd hr, Result.andThen_ok, Sem.run_pure]
  exact hK _ _ h
theorem wpLoadN {w : World} {ops : Array Oper} {rest : List Oper} {o : Oper} {a : Act} {Q : Exit → Act → World → Prop} (x : Operand) (ho : o.op = .load 27 x) (g off : Nat) (hx : a.eval x = .pointer (some ⟨g, off, none⟩)) (y : Nt) (hr : w.rangeAt g off y.cells) (hw : Region.wanted o (yielded ops a.tmps) = true)
    (h : wpList Tryz.prog ops Q rest (a.put o.dst (.agg y.cells.toArray)) w) : wpList Tryz.prog ops Q (o :: rest) a w := wpLoadX KN Tryz.underlying27 rfl x ho g off hx y hr hw h
theorem wpLoadH {w : World} {ops : Array Oper} {rest : List Oper} {o : Oper} {a : Act} {Q : Exit → Act → World → Prop} (x : Operand) (ho : o.op = .load 32 x) (g off : Nat) (hx : a.eval x = .pointer (some ⟨g, off, none⟩)) (y : Id32) (hr : w.rangeAt g off (cellsL y.1)) (hw : Region.wanted o (yielded ops a.tmps) = true)
    (h : wpList Tryz.prog ops Q rest (a.put o.dst (.agg (cellsL y.1).toArray)) w) : wpList Tryz.prog ops Q (o :: rest) a w := wpLoadX KH Tryz.underlying32 rfl x ho g off hx y hr hw h
theorem wpLoadNr {w : World} {ops : Array Oper} {rest : List Oper} {o : Oper} {a : Act} {Q : Exit → Act → World → Prop} (x : Operand) (ho : o.op = .load 44 x) (g off : Nat) (hx : a.eval x = .pointer (some ⟨g, off, none⟩)) (y : Nt) (hr : w.rangeAt g off y.cells) (hw : Region.wanted o (yielded ops a.tmps) = true)
    (h : wpList Tryz.prog ops Q rest (a.put o.dst (.agg y.cells.toArray)) w) : wpList Tryz.prog ops Q (o :: rest) a w := wpLoadX KNr Tryz.underlying44 rfl x ho g off hx y hr hw h
theorem wpList_loadS {t : TypeId} {n : Nat} {z : Array Value} {w : World} {ops : Array Oper} {rest : List Oper} {o : Oper} {a : Act} {Q : Exit → Act → World → Prop} (A : Arr t n z) (x : Operand) (ho : o.op = .load t x) (g : Nat) (hx : a.eval x = .pointer (some ⟨g, 0, none⟩)) (c : Array Value) (hn : c.size = n) (t' : TypeId) (hg : w.heap[g]? = some (.cells c t' (0, 0))) (hw : Region.wanted o (yielded ops a.tmps) = true)
    (h : wpList Tryz.prog ops Q rest (a.put o.dst (.agg c)) w) : wpList Tryz.prog ops Q (o :: rest) a w := by
  refine wpList_step fun K hK => ?_
  rw [if_pos hw]
  unfold Oper.wp execOp
  simp only [ho, hx, Sem.run_bind, ld_row A hn hg, Result.andThen_ok, Sem.run_pure]
  exact hK _ _ h
def zN : Nt := ⟨0, 0, List.replicate 16 0, 0, by simp⟩
def zI : Id32 := ⟨zeros, zeros_len⟩
/-- The message of which nothing is told. -/
def zM : Mg := ⟨0, 0, 0, 0, 0, zN, zN, ByteArray.empty, 0, false, false, [], [], [], zI, zI, [], ByteArray.empty, ByteArray.empty, [], [], [], []⟩
def nil8 : Vs := ⟨.slice none 0 0, .slice none 0 0, .slice none 0 0, .slice none 0 0, .slice none 0 0, .slice none 0 0, .slice none 0 0, .slice none 0 0⟩
theorem AM : Arr 38 121 (zM.cells nil8).toArray := ⟨.inr ⟨_, Tryz.underlying38⟩, by kernel_rfl, fun w => by kernel_rfl, fun w => by kernel_rfl, Mg.size _ _⟩
theorem AMr : Arr 50 121 (zM.cells nil8).toArray := ⟨.inr ⟨_, Tryz.underlying50⟩, by kernel_rfl, fun w => by kernel_rfl, fun w => by kernel_rfl, Mg.size _ _⟩
def ldN (x : Value) : Sem Value := Instr.loadAt 27 x
theorem ldN_eq (x : Value) : Instr.loadAt 27 x = ldN x := rfl
theorem ldN_run {W : World} {g off : Nat} (y : Nt) (hr : W.rangeAt g off y.cells) : (ldN (.pointer (some ⟨g, off, none⟩))).run Tryz.prog W = .ok (.agg y.cells.toArray) W := KN.load y Tryz.underlying27 rfl hr
def ldH (x : Value) : Sem Value := Instr.loadAt 32 x
theorem ldH_eq (x : Value) : Instr.loadAt 32 x = ldH x := rfl
theorem ldH_run {W : World} {g off : Nat} (y : Id32) (hr : W.rangeAt g off (cellsL y.1)) : (ldH (.pointer (some ⟨g, off, none⟩))).run Tryz.prog W = .ok (.agg (cellsL y.1).toArray) W := KH.load y Tryz.underlying32 rfl hr
def eqlN (x y : Value) : Sem Value := binOp .eql 27 x y
theorem eqlN_eq (x y : Value) : binOp .eql 27 x y = eqlN x y := rfl
theorem eqlN_run (x y : Nt) (W : World) : (eqlN (.agg x.cells.toArray) (.agg y.cells.toArray)).run Tryz.prog W = .ok (.bool (decide (x = y))) W := by
  unfold eqlN
  rw [run_eql_struct, eqNt fn_api]
  rfl
def eqlH (x y : Value) : Sem Value := binOp .eql 32 x y
theorem eqlH_eq (x y : Value) : binOp .eql 32 x y = eqlH x y := rfl
theorem eqlH_run (x y : Id32) (W : World) : (eqlH (.agg (cellsL x.1).toArray) (.agg (cellsL y.1).toArray)).run Tryz.prog W = .ok (.bool (decide (x = y))) W := by
  unfold eqlH
  rw [run_eql_struct, eqId Tryz.underlying32]
  rfl
def ldM (x : Value) : Sem Value := Instr.loadAt 38 x
theorem ldM_eq (x : Value) : Instr.loadAt 38 x = ldM x := rfl
theorem ldM_run {W : World} {g : Nat} {m : Mg} {s : Vs} (h : W.heap[g]? = some (.cells (m.cells s).toArray 38 (0, 0))) : (ldM (.pointer (some ⟨g, 0, none⟩))).run Tryz.prog W = .ok (.agg (m.cells s).toArray) W := ld_row AM (Mg.size _ _) h
/-- Whether two messages are the same, field by field. -/
def eqM (a b : Mg) : Bool := (a.kind == b.kind) && ((a.vers.toNat : Int) == (b.vers.toNat : Int)) && ((a.serv.toNat : Int) == (b.serv.toNat : Int)) && ((a.nonce.toNat : Int) == (b.nonce.toNat : Int)) && (a.time == b.time) && (decide (a.dst = b.dst)) && (decide (a.src = b.src)) && (a.agent.toList == b.agent.toList) && ((a.height.toNat : Int) == (b.height.toNat : Int)) && (a.relay == b.relay) && (a.high == b.high) && (decide (a.stop = b.stop)) && (decide (a.hash = b.hash)) && (a.head.toList == b.head.toList) && (a.raw.toList == b.raw.toList) && eqL a b
theorem eqM_iff (a b : Mg) : eqM a b = decide (a = b) := by
  rw [Bool.eq_iff_iff]
  simp only [eqM, eqL, bytes_same, Bool.and_eq_true, beq_iff_eq, decide_eq_true_eq]
  constructor
  · intro h
    obtain ⟨⟨⟨⟨⟨⟨⟨⟨⟨⟨⟨⟨⟨⟨⟨h0, h1⟩, h2⟩, h3⟩, h4⟩, h5⟩, h6⟩, h7⟩, h8⟩, h9⟩, h10⟩, h11⟩, h12⟩, h13⟩, h14⟩, ⟨⟨⟨⟨⟨⟨⟨l0, l1⟩, l2⟩, l3⟩, l4⟩, l5⟩, l6⟩, l7⟩⟩ := h
    cases a
    cases b
    simp only at *
    simp only [Mg.mk.injEq]
    exact ⟨h0, UInt32.toNat_inj.1 (by omega), UInt64.toNat_inj.1 (by omega), UInt64.toNat_inj.1 (by omega), h4, h5, h6, h7, UInt32.toNat_inj.1 (by omega), h9, h10, l0, l1, l2, h11, h12, l3, h13, h14, l4, l5, l6, l7⟩
  · rintro rfl
    simp
end Go.Proofs.YtkoidjaaojmcnaaGreat
namespace Go.Proofs.YtkoidjaaojmcnaaGreat
open Go.RowKit
open Go.Deep
def ldNr (x : Value) : Sem Value := Instr.loadAt 44 x
theorem ldNr_eq (x : Value) : Instr.loadAt 44 x = ldNr x := rfl
theorem ldNr_run {W : World} {g off : Nat} (y : Nt) (hr : W.rangeAt g off y.cells) : (ldNr (.pointer (some ⟨g, off, none⟩))).run Tryz.prog W = .ok (.agg y.cells.toArray) W := KNr.load y Tryz.underlying44 rfl hr
def neqNr (x y : Value) : Sem Value := binOp .neq 44 x y
theorem neqNr_eq (x y : Value) : binOp .neq 44 x y = neqNr x y := rfl
theorem neqNr_run (x y : Nt) (W : World) : (neqNr (.agg x.cells.toArray) (.agg y.cells.toArray)).run Tryz.prog W = .ok (.bool (!decide (x = y))) W := by
  unfold neqNr
  rw [run_neq_struct, eqNt fn_ref]
  rfl
def ldHr (x : Value) : Sem Value := Instr.loadAt 31 x
theorem ldHr_eq (x : Value) : Instr.loadAt 31 x = ldHr x := rfl
theorem ldHr_run {W : World} {g off : Nat} (y : Id32) (hr : W.rangeAt g off (cellsL y.1)) : (ldHr (.pointer (some ⟨g, off, none⟩))).run Tryz.prog W = .ok (.agg (cellsL y.1).toArray) W := KHr.load y Tryz.underlying31 rfl hr
def neqHr (x y : Value) : Sem Value := binOp .neq 31 x y
theorem neqHr_eq (x y : Value) : binOp .neq 31 x y = neqHr x y := rfl
theorem neqHr_run (x y : Id32) (W : World) : (neqHr (.agg (cellsL x.1).toArray) (.agg (cellsL y.1).toArray)).run Tryz.prog W = .ok (.bool (!decide (x = y))) W := by
  unfold neqHr
  rw [run_neq_struct, eqId Tryz.underlying31]
  rfl
end Go.Proofs.YtkoidjaaojmcnaaGreat
