/- Cuts of lists that are read. The contract of read at a position of which its id is told: not meant. The contract of read at a position of which its id is told: meant. The contract of read. -/
import Derived.Test.YthlaibkdcebekaaDoorNgd
namespace Go.Proofs.YthlaibkdcebekaaDoor
open Go.RowKit
open Go.Deep
/-- What is left of marks behind the first, in the form that a cut has. -/
theorem LB.tail2 {w : World} {g off n c : Nat} {b : Bool} {bs : List Bool} (h : LB w (.slice (some ⟨g, off, none⟩) n c) (b :: bs)) : LB w (.slice (if c = 1 then some ⟨g, off, none⟩ else some ⟨g, off + 1, none⟩) bs.length (c - 1)) bs := by
  by_cases hc : c = 1
  · rw [if_pos hc]
    obtain ⟨ao, cap, e, h1, h2⟩ := h
    cases e
    simp at h1
    exact ⟨_, _, rfl, by omega, fun i hi => by omega⟩
  · rw [if_neg hc]
    exact h.tail
theorem LH.tail2 {w : World} {g off n c : Nat} {x : List UInt8} {L : List (List UInt8)} (h : LH w (.slice (some ⟨g, off, none⟩) n c) (x :: L)) : LH w (.slice (if c = 1 then some ⟨g, off, none⟩ else some ⟨g, off + 32, none⟩) L.length (c - 1)) L := by
  by_cases hc : c = 1
  · rw [if_pos hc]
    obtain ⟨h0, ao, cap, e, h1, h2⟩ := h
    cases e
    simp at h1
    exact ⟨h0.tail, _, _, rfl, by omega, fun i hi => by omega⟩
  · rw [if_neg hc]
    exact h.tail
theorem Pq.setT {B W W1 : World} {gt gr : Nat} {vp vm vp1 vm1 : Value} (q : Pq B W gt gr vp vm W1 vp1 vm1) (hf : B.heap.size ≤ gt) (i : Nat) (u : Value) : Pq B W gt gr vp vm (W1.setCell ⟨gt, i, none⟩ u) vp1 vm1 :=
  ⟨q.on.setT i u, q.bel.setCell hf u, (Below.heap_setCell _ _ _ _ q.ne).trans q.res, q.new, q.far, q.ne, q.np, q.nm⟩
end Go.Proofs.YthlaibkdcebekaaDoor
namespace Go.Proofs.YthlaibkdcebekaaDoor
open Go.RowKit
open Go.Deep
section
set_option maxRecDepth 10000
set_option maxHeartbeats 4000000
theorem read_leaf0 {B : World} {gt n : Nat} (k p : Nat) (vb vi vp vm : Value) (bs : List Bool) (x : List UInt8) (is : List (List UInt8)) (ps : List Nat) (ms : List (List UInt8)) (W : World) (J : Rr B W gt n vb vi vp vm (false :: bs) (x :: is) ps ms) :
    Calls Tryd.prog 24 #[.pointer (some ⟨gt, 0, none⟩), .int .i64 (k : Int), .int .i64 (p : Int)] W fun e w' => ∃ vp' vm', On3 gt W w' vp vm vp' vm' ∧ Below B.heap.size B w' ∧ RA B w' gt n vp' vm' ps ms (some ⟨x, bs, is, [], []⟩) e := by
  have P1 := hide (Pq.start J)
  have J1 := hide (J.next ((Below.refl _ _).alloc (Nat.le_refl _) (.cells (hc zeros) 39)))
  clear J
  generalize hRD : (some (⟨x, bs, is, [], []⟩ : Rd)) = RD at *
  have HR : Hid (RD = some ⟨x, bs, is, [], []⟩) := hRD.symm
  clear hRD
  obtain ⟨ab, cb, rfl, hcb⟩ := J1.out.bits.form
  obtain ⟨gb, ob, rfl⟩ := J1.out.bits.base (by simp)
  have c1 := ((J1.out.bits.below J1.out.bel).cell 0 (by simp))
  rw [show (false :: bs).getD 0 false = false from rfl, Nat.add_zero] at c1
  have TL := hide J1.out.bits.tail2
  rw [List.length_cons] at *
  have hl1 : (((bs.length : Int) + 1) == 0) = false := by rw [beq_eq_false_iff_ne]; omega
  have hl2 : (0 : Int) < (bs.length : Int) + 1 := by omega
  have hl3 : (1 : Int) ≤ (bs.length : Int) + 1 := by omega
  have hl4 : (bs.length : Int) + 1 ≤ (cb : Int) := by omega
  go_enter Tryd.func24, Tryd.ntmps24
  go_upto_region 1 with (first | refine wpList_allocA A25 rfl rfl ?_)
  generalize W.alloc (.cells (hc zeros) 39) = W1 at *
  generalize W.heap.size = gr at *
  have x1 := World.rowIs.cell J1.out.row (i := 1) (by decide)
  rw [show rc5 n (.slice (some ⟨gb, ob, none⟩) (bs.length + 1) cb) vi vp vm 1 = .slice (some ⟨gb, ob, none⟩) (bs.length + 1) cb from rfl] at x1
  have f1 := World.rowIs.frozen J1.out.row 1
  go_upto_region 5 with fail
  generalize (if cb = 1 then some ({ block := gb, off := ob } : Addr) else some { block := gb, off := ob + 1 }) = ab2 at *
  have J2 := hide (J1.out.setB TL.out)
  have P2 := hide (P1.out.setT J1.out.tfar 1 (.slice ab2 bs.length (cb - 1)))
  generalize cb - 1 = cb2 at *
  clear x1 f1 c1 hl1 hl2 hl3 hl4 hcb J1 P1 TL
  generalize W1.setCell ⟨gt, 1, none⟩ (.slice ab2 bs.length cb2) = W2 at *
  obtain ⟨ai, ci, rfl⟩ := J2.out.ids.form
  obtain ⟨gi, oi, rfl⟩ := J2.out.ids.base (by simp)
  have hci : (x :: is).length ≤ ci := by
    obtain ⟨_, ao, cap, e, h1, _⟩ := J2.out.ids
    cases e
    exact h1
  have LX := hide J2.out.ids.1.head
  have RX := hide ((J2.out.ids.below J2.out.bel).range 0 (by simp))
  rw [show ia (x :: is) 0 = x from rfl, Nat.zero_mul, Nat.add_zero] at RX
  have TI := hide J2.out.ids.tail2
  rw [List.length_cons] at *
  have hl1 : (((is.length : Int) + 1) == 0) = false := by rw [beq_eq_false_iff_ne]; omega
  have hl2 : (0 : Int) < (is.length : Int) + 1 := by omega
  have hl3 : (1 : Int) ≤ (is.length : Int) + 1 := by omega
  have hl4 : (is.length : Int) + 1 ≤ (ci : Int) := by omega
  clear hci
  have x2 := World.rowIs.cell J2.out.row (i := 2) (by decide)
  rw [show rc5 n (.slice ab2 bs.length cb2) (.slice (some ⟨gi, oi, none⟩) (is.length + 1) ci) vp vm 2 = .slice (some ⟨gi, oi, none⟩) (is.length + 1) ci from rfl] at x2
  go_upto_region 9 with fail
  have b3 : Below W2.heap.size W2 (W2.alloc (.cells (hc x) 39)) := (Below.refl _ _).alloc (Nat.le_refl _) _
  have J3 := hide (J2.out.next b3)
  have P3 := hide (P2.out.next b3)
  have R3 := hide (heap_alloc_last W2 (.cells (hc x) 39))
  have D3 : Hid (W2.heap.size ≠ gt ∧ vp.ownBlock ≠ some W2.heap.size ∧ vm.ownBlock ≠ some W2.heap.size) :=
    ⟨fun e => by have := World.rowIs.lt J2.out.row; omega, fun e => by have := J2.out.pl.lt _ e; omega, fun e => by have := J2.out.mt.lt _ e; omega⟩
  clear b3
  go_upto_region 10 with (first | refine ET.wpLoad EH rfl _ rfl gi oi rfl x LX.out RX.out ?_ | refine wpList_allocA A25 rfl rfl ?_ | refine wpList_store_newA A25 rfl _ _ rfl _ rfl (hc x) (by rw [hc_size, LX.out]) (hc_one _) rfl rfl ?_)
  generalize W2.alloc (.cells (hc x) 39) = W3 at *
  generalize W2.heap.size = g9 at *
  clear x2 J2 P2 RX
  have y2 := World.rowIs.cell J3.out.row (i := 2) (by decide)
  have f2 := World.rowIs.frozen J3.out.row 2
  rw [show rc5 n (.slice ab2 bs.length cb2) (.slice (some ⟨gi, oi, none⟩) (is.length + 1) ci) vp vm 2 = .slice (some ⟨gi, oi, none⟩) (is.length + 1) ci from rfl] at y2
  go_upto_region 11 with fail
  generalize (if ci = 1 then some ({ block := gi, off := oi } : Addr) else some { block := gi, off := oi + 32 }) = ai2 at *
  have J4 := hide (J3.out.setI TI.out)
  have P4 := hide (P3.out.setT J3.out.tfar 2 (.slice ai2 is.length (ci - 1)))
  have R4 := hide ((Below.heap_setCell W3 ⟨gt, 2, none⟩ (.slice ai2 is.length (ci - 1)) g9 D3.out.1).trans R3.out)
  generalize ci - 1 = ci2 at *
  clear y2 f2 hl1 hl2 hl3 hl4 J3 P3 R3 TI
  generalize W3.setCell ⟨gt, 2, none⟩ (.slice ai2 is.length ci2) = W4 at *
  have PZ := P4
  have RZ := R4
  have JZ := J4
  clear P4 R4 J4
  go_wp2_with (first | refine wpList_loadG6 A25 _ rfl g9 rfl (hc x) (by rw [hc_size, LX.out]) 39 RZ.out rfl ?_ | refine wpList_storeA A25 rfl _ _ rfl gr (hc x) (by rw [hc_size, LX.out]) (hc_one _) rfl rfl (hc zeros) (by rw [hc_size, zeros_len]) 39 PZ.out.res ?_)
  exact bodyPost_ret (v := .tuple #[.agg (hc x), .bool true]) (resAB A25 Tryd.results24 _ _ gr 39 (hc x) (by rw [hc_size, LX.out]) rfl (setRow_heap _ _ _ _ _ _ PZ.out.res) _ (by rfl)) rfl ⟨vp, vm, (PZ.out.fin _).1, (PZ.out.fin _).2, by rw [HR.out]; exact ⟨rfl, LX.out, _, _, by rw [List.append_nil, List.append_nil]; exact PZ.out.rr _ JZ.out⟩⟩
end
end Go.Proofs.YthlaibkdcebekaaDoor
namespace Go.Proofs.YthlaibkdcebekaaDoor
open Go.RowKit
open Go.Deep
section
set_option maxRecDepth 10000
set_option maxHeartbeats 4000000
theorem read_leaf1 {B : World} {gt n : Nat} (k p : Nat) (hk0 : ¬ (0 : Int) < (k : Int)) (vb vi vp vm : Value) (bs : List Bool) (x : List UInt8) (is : List (List UInt8)) (ps : List Nat) (ms : List (List UInt8)) (W : World) (J : Rr B W gt n vb vi vp vm (true :: bs) (x :: is) ps ms) (hb1 : ps.length ≤ 1000000) (hb2 : ms.length ≤ 1000000) :
    Calls Tryd.prog 24 #[.pointer (some ⟨gt, 0, none⟩), .int .i64 (k : Int), .int .i64 (p : Int)] W fun e w' => ∃ vp' vm', On3 gt W w' vp vm vp' vm' ∧ Below B.heap.size B w' ∧ RA B w' gt n vp' vm' ps ms (some ⟨x, bs, is, [p], [x]⟩) e := by
  have P1 := hide (Pq.start J)
  have J1 := hide (J.next ((Below.refl _ _).alloc (Nat.le_refl _) (.cells (hc zeros) 39)))
  have HB := hide (And.intro hb1 hb2)
  clear hb1 hb2
  clear J
  generalize hRD : (some (⟨x, bs, is, [p], [x]⟩ : Rd)) = RD at *
  have HR : Hid (RD = some ⟨x, bs, is, [p], [x]⟩) := hRD.symm
  clear hRD
  obtain ⟨ab, cb, rfl, hcb⟩ := J1.out.bits.form
  obtain ⟨gb, ob, rfl⟩ := J1.out.bits.base (by simp)
  have c1 := ((J1.out.bits.below J1.out.bel).cell 0 (by simp))
  rw [show (true :: bs).getD 0 false = true from rfl, Nat.add_zero] at c1
  have TL := hide J1.out.bits.tail2
  rw [List.length_cons] at *
  have hl1 : (((bs.length : Int) + 1) == 0) = false := by rw [beq_eq_false_iff_ne]; omega
  have hl2 : (0 : Int) < (bs.length : Int) + 1 := by omega
  have hl3 : (1 : Int) ≤ (bs.length : Int) + 1 := by omega
  have hl4 : (bs.length : Int) + 1 ≤ (cb : Int) := by omega
  go_enter Tryd.func24, Tryd.ntmps24
  go_upto_region 1 with (first | refine wpList_allocA A25 rfl rfl ?_)
  generalize W.alloc (.cells (hc zeros) 39) = W1 at *
  generalize W.heap.size = gr at *
  have x1 := World.rowIs.cell J1.out.row (i := 1) (by decide)
  rw [show rc5 n (.slice (some ⟨gb, ob, none⟩) (bs.length + 1) cb) vi vp vm 1 = .slice (some ⟨gb, ob, none⟩) (bs.length + 1) cb from rfl] at x1
  have f1 := World.rowIs.frozen J1.out.row 1
  go_upto_region 5 with fail
  generalize (if cb = 1 then some ({ block := gb, off := ob } : Addr) else some { block := gb, off := ob + 1 }) = ab2 at *
  have J2 := hide (J1.out.setB TL.out)
  have P2 := hide (P1.out.setT J1.out.tfar 1 (.slice ab2 bs.length (cb - 1)))
  generalize cb - 1 = cb2 at *
  clear x1 f1 c1 hl1 hl2 hl3 hl4 hcb J1 P1 TL
  generalize W1.setCell ⟨gt, 1, none⟩ (.slice ab2 bs.length cb2) = W2 at *
  obtain ⟨ai, ci, rfl⟩ := J2.out.ids.form
  obtain ⟨gi, oi, rfl⟩ := J2.out.ids.base (by simp)
  have hci : (x :: is).length ≤ ci := by
    obtain ⟨_, ao, cap, e, h1, _⟩ := J2.out.ids
    cases e
    exact h1
  have LX := hide J2.out.ids.1.head
  have RX := hide ((J2.out.ids.below J2.out.bel).range 0 (by simp))
  rw [show ia (x :: is) 0 = x from rfl, Nat.zero_mul, Nat.add_zero] at RX
  have TI := hide J2.out.ids.tail2
  rw [List.length_cons] at *
  have hl1 : (((is.length : Int) + 1) == 0) = false := by rw [beq_eq_false_iff_ne]; omega
  have hl2 : (0 : Int) < (is.length : Int) + 1 := by omega
  have hl3 : (1 : Int) ≤ (is.length : Int) + 1 := by omega
  have hl4 : (is.length : Int) + 1 ≤ (ci : Int) := by omega
  clear hci
  have x2 := World.rowIs.cell J2.out.row (i := 2) (by decide)
  rw [show rc5 n (.slice ab2 bs.length cb2) (.slice (some ⟨gi, oi, none⟩) (is.length + 1) ci) vp vm 2 = .slice (some ⟨gi, oi, none⟩) (is.length + 1) ci from rfl] at x2
  go_upto_region 9 with fail
  have b3 : Below W2.heap.size W2 (W2.alloc (.cells (hc x) 39)) := (Below.refl _ _).alloc (Nat.le_refl _) _
  have J3 := hide (J2.out.next b3)
  have P3 := hide (P2.out.next b3)
  have R3 := hide (heap_alloc_last W2 (.cells (hc x) 39))
  have D3 : Hid (W2.heap.size ≠ gt ∧ vp.ownBlock ≠ some W2.heap.size ∧ vm.ownBlock ≠ some W2.heap.size) :=
    ⟨fun e => by have := World.rowIs.lt J2.out.row; omega, fun e => by have := J2.out.pl.lt _ e; omega, fun e => by have := J2.out.mt.lt _ e; omega⟩
  clear b3
  go_upto_region 10 with (first | refine ET.wpLoad EH rfl _ rfl gi oi rfl x LX.out RX.out ?_ | refine wpList_allocA A25 rfl rfl ?_ | refine wpList_store_newA A25 rfl _ _ rfl _ rfl (hc x) (by rw [hc_size, LX.out]) (hc_one _) rfl rfl ?_)
  generalize W2.alloc (.cells (hc x) 39) = W3 at *
  generalize W2.heap.size = g9 at *
  clear x2 J2 P2 RX
  have y2 := World.rowIs.cell J3.out.row (i := 2) (by decide)
  have f2 := World.rowIs.frozen J3.out.row 2
  rw [show rc5 n (.slice ab2 bs.length cb2) (.slice (some ⟨gi, oi, none⟩) (is.length + 1) ci) vp vm 2 = .slice (some ⟨gi, oi, none⟩) (is.length + 1) ci from rfl] at y2
  go_upto_region 11 with fail
  generalize (if ci = 1 then some ({ block := gi, off := oi } : Addr) else some { block := gi, off := oi + 32 }) = ai2 at *
  have J4 := hide (J3.out.setI TI.out)
  have P4 := hide (P3.out.setT J3.out.tfar 2 (.slice ai2 is.length (ci - 1)))
  have R4 := hide ((Below.heap_setCell W3 ⟨gt, 2, none⟩ (.slice ai2 is.length (ci - 1)) g9 D3.out.1).trans R3.out)
  generalize ci - 1 = ci2 at *
  clear y2 f2 hl1 hl2 hl3 hl4 J3 P3 R3 TI
  generalize W3.setCell ⟨gt, 2, none⟩ (.slice ai2 is.length ci2) = W4 at *
  obtain ⟨ap, cp, rfl⟩ := J4.out.pl.form
  obtain ⟨am, cm, rfl⟩ := J4.out.mt.form
  have x3 := World.rowIs.cell J4.out.row (i := 3) (by decide)
  rw [show rc5 n (.slice ab2 bs.length cb2) (.slice ai2 is.length ci2) (.slice ap ps.length cp) (.slice am ms.length cm) 3 = .slice ap ps.length cp from rfl] at x3
  go_upto_region 12 with fail
  have b5 : Below W4.heap.size W4 (W4.alloc (.cells #[.int .i64 (p : Int)] 3)) := (Below.refl _ _).alloc (Nat.le_refl _) _
  have J5 := hide (J4.out.next b5)
  have P5 := hide (P4.out.next b5)
  have R5 := hide ((b5.block _ (lt_heap R4.out)).trans R4.out)
  have C5 : Hid ((W4.alloc (.cells #[.int .i64 (p : Int)] 3)).cell? ⟨W4.heap.size, 0, none⟩ = some (.int .i64 (p : Int))) := by
    show _ = _
    rw [cell_of_row _ _ _ _ _ _ (heap_alloc_last W4 _)]
    rfl
  clear b5
  go_upto_region 13 with (first | (at_builtin; refine OI.wpApp rfl _ _ rfl rfl J5.out.pl ⟨W4.heap.size, 0, none⟩ rfl p C5.out HB.out.1 ?_; intro v6 w6 o6 on6; obtain ⟨a6, c6, rfl⟩ := o6.form; generalize (ps ++ [p]).length = l6 at *; have f3 := World.rowIs.frozen (J5.out.rowP on6) 3; have y3 := World.rowIs.cell (J5.out.rowP on6) (i := 3) (by decide); have J6 := hide (J5.out.place o6 on6); have P6 := hide ((P5.out.call (On3.ontoA gt on6 (.slice am ms.length cm)) (J5.out.bel.trans (on6.below J5.out.bel.size J5.out.pfar))).setT J5.out.tfar 3 (.slice a6 l6 c6)); have D6 := hide (And.intro D3.out.1 (And.intro D3.out.2.1 D3.out.2.2)); have R6 := hide ((Below.heap_setCell w6 ⟨gt, 3, none⟩ (.slice a6 l6 c6) g9 D3.out.1).trans ((on6.grown.block g9 (lt_heap R5.out) (fun e => D3.out.2.1 e.symm)).trans R5.out)); clear o6 on6))
  clear f3 y3 x3 J4 J5 P4 P5 R4 R5 C5 D6
  generalize w6.setCell ⟨gt, 3, none⟩ (.slice a6 l6 c6) = W6 at *
  refine wp_region_held_drew (S := fun W => W.heap[g9]? = some (.cells (hc x) 39 (0, 0))) (by kernel_rfl) R6.out (fun hH => ?_)
  refine wpAnyH_take (i := 0) (v := .pointer (some ⟨gt, 0, none⟩)) rfl (by kernel_rfl) (by kernel_rfl) (by kernel_rfl) (fun _ _ _ h => h) (yl_move (by rfl) _ (by rfl) _ (by rfl)) hH ?_
  change wpAnyH _ _ _ _ _ _ _ (Act.put _ (some 76) _) _
  simp only [Act.put, List.setIfInBounds_toArray, List.set_cons_zero, List.set_cons_succ]
  refine wpAnyH_take (i := 1) (v := .pointer (some ⟨gt, 0, none⟩)) rfl (by kernel_rfl) (by kernel_rfl) (by kernel_rfl) (fun _ _ _ h => h) (yl_move (by rfl) _ (by rfl) _ (by rfl)) hH ?_
  change wpAnyH _ _ _ _ _ _ _ (Act.put _ (some 77) _) _
  simp only [Act.put, List.setIfInBounds_toArray, List.set_cons_zero, List.set_cons_succ]
  refine wpAnyH_take (i := 2) (v := .pointer (some ⟨gt, 0, none⟩)) rfl (by kernel_rfl) (by kernel_rfl) (by kernel_rfl) (fun _ _ _ h => h) (.inl ⟨by rfl, fun W _ => by go_simp⟩) hH ?_
  change wpAnyH _ _ _ _ _ _ _ (Act.put _ (some 78) _) _
  simp only [Act.put, List.setIfInBounds_toArray, List.set_cons_zero, List.set_cons_succ]
  refine wpAnyH_take (i := 3) (v := .pointer (some ⟨gt, 4, none⟩)) rfl (by kernel_rfl) (by kernel_rfl) (by kernel_rfl) (fun _ _ _ h => h) (.inl ⟨by rfl, fun W _ => by go_simp⟩) hH ?_
  change wpAnyH _ _ _ _ _ _ _ (Act.put _ (some 79) _) _
  simp only [Act.put, List.setIfInBounds_toArray, List.set_cons_zero, List.set_cons_succ]
  refine wpAnyH_take (i := 5) (v := .agg (hc x)) rfl (by kernel_rfl) (by kernel_rfl) (by kernel_rfl) (fun _ _ _ h => h) (yl_load (by rfl) _ (by rfl) _ (hc x) (by rfl) (fun W hS => ld_row A25 (by rw [hc_size, LX.out]) hS)) hH ?_
  change wpAnyH _ _ _ _ _ _ _ (Act.put _ (some 81) _) _
  simp only [Act.put, List.setIfInBounds_toArray, List.set_cons_zero, List.set_cons_succ]
  have J6d := hide (J6.out.next (Below.refl _ _).drew)
  have P6d := hide (P6.out.next (Below.refl _ _).drew)
  have R6d : Hid (W6.drew.heap[g9]? = some (.cells (hc x) 39 (0, 0))) := R6.out
  have b7 : Below W6.drew.heap.size W6.drew (W6.drew.alloc (.cells (hc x) 39)) := (Below.refl _ _).alloc (Nat.le_refl _) _
  have J7 := hide (J6d.out.next b7)
  have P7 := hide (P6d.out.next b7)
  have R7 := hide ((b7.block _ (lt_heap R6d.out)).trans R6d.out)
  have N7 := hide (one_newH (e := 39) W6.drew x)
  clear b7 J6 P6 R6
  have x4 := World.rowIs.cell J6d.out.row (i := 4) (by decide)
  have x5 := World.rowIs.cell J7.out.row (i := 4) (by decide)
  rw [show rc5 n (.slice ab2 bs.length cb2) (.slice ai2 is.length ci2) (.slice a6 l6 c6) (.slice am ms.length cm) 4 = .slice am ms.length cm from rfl] at x4 x5
  have SZ : Hid (ms.length + 1 ≤ 4398046511104) := by
    show _ ≤ _
    have := HB.out.2
    omega
  refine wpAnyH_ready (rs := [4, 6]) (by kernel_rfl) (by simp) (AllReadyH.cons rfl (fun K1 hK1 => ?_) (AllReadyH.cons rfl (fun K1 hK1 => ?_) AllReadyH.nil))
  · clear x5
    go_simp
    refine hK1.out _ _ R6d.out (fun hH => ?_)
    clear hK1 x4
    refine wpAnyH_ready (rs := [6]) (by kernel_rfl) (by simp) (AllReadyH.cons rfl (fun K1 hK1 => ?_) AllReadyH.nil)
    refine ET.stepBs1 EH (by rfl) _ (by rfl) x LX.out (by rfl) ?_
    refine hK1.out _ _ R7.out (fun hH => ?_)
    clear hK1
    change wpAnyH _ _ _ _ _ _ _ (Act.put _ (some 82) _) _
    simp only [Act.put, List.setIfInBounds_toArray, List.set_cons_zero, List.set_cons_succ]
    refine wpAnyH_ready (rs := [7]) (by kernel_rfl) (by simp) (AllReadyH.cons rfl (fun K1 hK1 => ?_) AllReadyH.nil)
    refine ET.step EH (by rfl) _ _ (by rfl) (.slice am ms.length cm) ms (by rfl) J7.out.mt ⟨W6.drew.heap.size, 0, none⟩ x LX.out (by rfl) N7.out SZ.out ?_
    intro v8 w8 o8 on8
    obtain ⟨a8, c8, rfl⟩ := o8.form
    have f4 := World.rowIs.frozen (J7.out.rowM on8) 4
    have y4 := World.rowIs.cell (J7.out.rowM on8) (i := 4) (by decide)
    have R8 := hide ((on8.grown.block g9 (lt_heap R7.out) (fun e => D3.out.2.2 e.symm)).trans R7.out)
    generalize (ms ++ [x]).length = l8 at *
    have JZ := hide (J7.out.meant o8 on8)
    have PZ := hide ((P7.out.call (On3.ontoB gt on8 (.slice a6 l6 c6)) (J7.out.bel.trans (on8.below J7.out.bel.size J7.out.mfar))).setT J7.out.tfar 4 (.slice a8 l8 c8))
    have RZ := hide ((Below.heap_setCell w8 ⟨gt, 4, none⟩ (.slice a8 l8 c8) g9 D3.out.1).trans R8.out)
    clear o8 on8
    refine hK1.out _ _ R8.out (fun hH => ?_)
    clear hK1
    change wpAnyH _ _ _ _ _ _ _ (Act.put _ (some 83) _) _
    simp only [Act.put, List.setIfInBounds_toArray, List.set_cons_zero, List.set_cons_succ]
    refine wpAnyH_take (i := 8) (v := .pointer (some ⟨gt, 0, none⟩)) rfl (by kernel_rfl) (by kernel_rfl) (by kernel_rfl) (fun _ _ _ h => h) (.inl ⟨by rfl, fun W _ => by go_simp⟩) hH ?_
    change wpAnyH _ _ _ _ _ _ _ (Act.put _ (some 84) _) _
    simp only [Act.put, List.setIfInBounds_toArray, List.set_cons_zero, List.set_cons_succ]
    refine wpAnyH_take (i := 9) (v := .pointer (some ⟨gt, 4, none⟩)) rfl (by kernel_rfl) (by kernel_rfl) (by kernel_rfl) (fun _ _ _ h => h) (.inl ⟨by rfl, fun W _ => by go_simp⟩) hH ?_
    change wpAnyH _ _ _ _ _ _ _ (Act.put _ (some 85) _) _
    simp only [Act.put, List.setIfInBounds_toArray, List.set_cons_zero, List.set_cons_succ]
    refine wpAnyH_ready (rs := [10]) (by kernel_rfl) (by simp) (AllReadyH.cons rfl (fun K1 hK1 => ?_) AllReadyH.nil)
    go_simp
    refine hK1.out _ _ RZ.out (fun hH => ?_)
    clear hK1
    refine wpAnyH_done (by kernel_rfl) ?_ _
    clear f4 y4 R8 J7 P7 R7 N7 J6d P6d R6d
    generalize w8.setCell ⟨gt, 4, none⟩ (.slice a8 l8 c8) = W9 at *
    go_wp2_with (first | refine wpList_loadG6 A25 _ rfl g9 rfl (hc x) (by rw [hc_size, LX.out]) 39 RZ.out rfl ?_ | refine wpList_storeA A25 rfl _ _ rfl gr (hc x) (by rw [hc_size, LX.out]) (hc_one _) rfl rfl (hc zeros) (by rw [hc_size, zeros_len]) 39 PZ.out.res ?_)
    exact bodyPost_ret (v := .tuple #[.agg (hc x), .bool true]) (resAB A25 Tryd.results24 _ _ gr 39 (hc x) (by rw [hc_size, LX.out]) rfl (setRow_heap _ _ _ _ _ _ PZ.out.res) _ (by rfl)) rfl ⟨_, _, (PZ.out.fin _).1, (PZ.out.fin _).2, by rw [HR.out]; exact ⟨rfl, LX.out, _, _, PZ.out.rr _ JZ.out⟩⟩
  · clear x4
    refine ET.stepBs1 EH (by rfl) _ (by rfl) x LX.out (by rfl) ?_
    refine hK1.out _ _ R7.out (fun hH => ?_)
    clear hK1
    change wpAnyH _ _ _ _ _ _ _ (Act.put _ (some 82) _) _
    simp only [Act.put, List.setIfInBounds_toArray, List.set_cons_zero, List.set_cons_succ]
    generalize W6.drew.alloc (.cells (hc x) 39) = W7 at *
    refine wpAnyH_ready (rs := [4]) (by kernel_rfl) (by simp) (AllReadyH.cons rfl (fun K1 hK1 => ?_) AllReadyH.nil)
    go_simp
    refine hK1.out _ _ R7.out (fun hH => ?_)
    clear hK1 x5
    refine wpAnyH_ready (rs := [7]) (by kernel_rfl) (by simp) (AllReadyH.cons rfl (fun K1 hK1 => ?_) AllReadyH.nil)
    refine ET.step EH (by rfl) _ _ (by rfl) (.slice am ms.length cm) ms (by rfl) J7.out.mt ⟨W6.drew.heap.size, 0, none⟩ x LX.out (by rfl) N7.out SZ.out ?_
    intro v8 w8 o8 on8
    obtain ⟨a8, c8, rfl⟩ := o8.form
    have f4 := World.rowIs.frozen (J7.out.rowM on8) 4
    have y4 := World.rowIs.cell (J7.out.rowM on8) (i := 4) (by decide)
    have R8 := hide ((on8.grown.block g9 (lt_heap R7.out) (fun e => D3.out.2.2 e.symm)).trans R7.out)
    generalize (ms ++ [x]).length = l8 at *
    have JZ := hide (J7.out.meant o8 on8)
    have PZ := hide ((P7.out.call (On3.ontoB gt on8 (.slice a6 l6 c6)) (J7.out.bel.trans (on8.below J7.out.bel.size J7.out.mfar))).setT J7.out.tfar 4 (.slice a8 l8 c8))
    have RZ := hide ((Below.heap_setCell w8 ⟨gt, 4, none⟩ (.slice a8 l8 c8) g9 D3.out.1).trans R8.out)
    clear o8 on8
    refine hK1.out _ _ R8.out (fun hH => ?_)
    clear hK1
    change wpAnyH _ _ _ _ _ _ _ (Act.put _ (some 83) _) _
    simp only [Act.put, List.setIfInBounds_toArray, List.set_cons_zero, List.set_cons_succ]
    refine wpAnyH_take (i := 8) (v := .pointer (some ⟨gt, 0, none⟩)) rfl (by kernel_rfl) (by kernel_rfl) (by kernel_rfl) (fun _ _ _ h => h) (.inl ⟨by rfl, fun W _ => by go_simp⟩) hH ?_
    change wpAnyH _ _ _ _ _ _ _ (Act.put _ (some 84) _) _
    simp only [Act.put, List.setIfInBounds_toArray, List.set_cons_zero, List.set_cons_succ]
    refine wpAnyH_take (i := 9) (v := .pointer (some ⟨gt, 4, none⟩)) rfl (by kernel_rfl) (by kernel_rfl) (by kernel_rfl) (fun _ _ _ h => h) (.inl ⟨by rfl, fun W _ => by go_simp⟩) hH ?_
    change wpAnyH _ _ _ _ _ _ _ (Act.put _ (some 85) _) _
    simp only [Act.put, List.setIfInBounds_toArray, List.set_cons_zero, List.set_cons_succ]
    refine wpAnyH_ready (rs := [10]) (by kernel_rfl) (by simp) (AllReadyH.cons rfl (fun K1 hK1 => ?_) AllReadyH.nil)
    go_simp
    refine hK1.out _ _ RZ.out (fun hH => ?_)
    clear hK1
    refine wpAnyH_done (by kernel_rfl) ?_ _
    clear f4 y4 R8 J7 P7 R7 N7 J6d P6d R6d
    generalize w8.setCell ⟨gt, 4, none⟩ (.slice a8 l8 c8) = W9 at *
    go_wp2_with (first | refine wpList_loadG6 A25 _ rfl g9 rfl (hc x) (by rw [hc_size, LX.out]) 39 RZ.out rfl ?_ | refine wpList_storeA A25 rfl _ _ rfl gr (hc x) (by rw [hc_size, LX.out]) (hc_one _) rfl rfl (hc zeros) (by rw [hc_size, zeros_len]) 39 PZ.out.res ?_)
    exact bodyPost_ret (v := .tuple #[.agg (hc x), .bool true]) (resAB A25 Tryd.results24 _ _ gr 39 (hc x) (by rw [hc_size, LX.out]) rfl (setRow_heap _ _ _ _ _ _ PZ.out.res) _ (by rfl)) rfl ⟨_, _, (PZ.out.fin _).1, (PZ.out.fin _).2, by rw [HR.out]; exact ⟨rfl, LX.out, _, _, PZ.out.rr _ JZ.out⟩⟩
end
end Go.Proofs.YthlaibkdcebekaaDoor
namespace Go.Proofs.YthlaibkdcebekaaDoor
open Go.RowKit
open Go.Deep
section
set_option maxRecDepth 10000
set_option maxHeartbeats 4000000
theorem read_step {B : World} {gt n : Nat} (k p : Nat) (hk : k ≤ 17) (hp : p ≤ 131072) (IH : ∀ k', k = k' + 1 → RP B gt n k' (2 * p)) : RR B gt n k p := by
  intro vb vi vp vm bs is ps ms W J hb1 hb2
  have P1 := hide (Pq.start J)
  have J1 := hide (J.next ((Below.refl _ _).alloc (Nat.le_refl _) (.cells (hc zeros) 39)))
  have HB := hide (And.intro hb1 hb2)
  have J0 := hide J
  have HIH := hide IH
  have HK := hide (And.intro hk hp)
  clear J IH hb1 hb2 hk hp
  cases bs with
  | nil =>
    obtain ⟨ab, cb, rfl, _⟩ := J1.out.bits.form
    have HR : Hid (rd n k p [] is = none) := by
      show _ = _
      cases k <;> rfl
    go_enter Tryd.func24, Tryd.ntmps24
    go_upto_region 1 with (first | refine wpList_allocA A25 rfl rfl ?_)
    generalize W.alloc (.cells (hc zeros) 39) = W1 at *
    generalize W.heap.size = gr at *
    have x1 := World.rowIs.cell J1.out.row (i := 1) (by decide)
    rw [show rc5 n (.slice ab ([] : List Bool).length cb) vi vp vm 1 = .slice ab 0 cb from rfl] at x1
    go_wp2_with (first | refine wpList_buildA A25 rfl rfl ?_ | refine wpList_storeA A25 rfl _ _ rfl gr (hc zeros) (by rw [hc_size, zeros_len]) (hc_one _) rfl rfl (hc zeros) (by rw [hc_size, zeros_len]) 39 P1.out.res ?_)
    refine bodyPost_ret (v := .tuple #[.agg (hc zeros), .bool false]) (resAB A25 Tryd.results24 _ _ gr 39 (hc zeros) (by rw [hc_size, zeros_len]) rfl (setRow_heap _ _ _ _ _ _ P1.out.res) _ (by rfl)) rfl ⟨vp, vm, (P1.out.fin _).1, (P1.out.fin _).2, ?_⟩
    rw [HR.out]
    exact rfl
  | cons b bs =>
    by_cases hlf : ∃ x is', is = x :: is' ∧ (b = false ∨ k = 0)
    · obtain ⟨x, is', rfl, hb⟩ := hlf
      have l1 := Nat.le_of_add_right_le HB.out.1
      have l2 := Nat.le_of_add_right_le HB.out.2
      cases b with
      | false =>
        rw [show rd n k p (false :: bs) (x :: is') = some ⟨x, bs, is', [], []⟩ by cases k <;> rfl]
        exact read_leaf0 k p vb vi vp vm bs x is' ps ms W J0.out
      | true =>
        have hk : k = 0 := by
          rcases hb with h | h
          · cases h
          · exact h
        subst hk
        exact read_leaf1 0 p (by decide) vb vi vp vm bs x is' ps ms W J0.out l1 l2
    generalize hRD : rd n k p (b :: bs) is = RD at *
    have HRD := hide hRD
    clear hRD
    obtain ⟨ab, cb, rfl, hcb⟩ := J1.out.bits.form
    obtain ⟨gb, ob, rfl⟩ := J1.out.bits.base (by simp)
    have c1 := ((J1.out.bits.below J1.out.bel).cell 0 (by simp))
    rw [show (b :: bs).getD 0 false = b from rfl, Nat.add_zero] at c1
    have TL := hide J1.out.bits.tail2
    rw [List.length_cons] at *
    have hl1 : (((bs.length : Int) + 1) == 0) = false := by rw [beq_eq_false_iff_ne]; omega
    have hl2 : (0 : Int) < (bs.length : Int) + 1 := by omega
    have hl3 : (1 : Int) ≤ (bs.length : Int) + 1 := by omega
    have hl4 : (bs.length : Int) + 1 ≤ (cb : Int) := by omega
    go_enter Tryd.func24, Tryd.ntmps24
    go_upto_region 1 with (first | refine wpList_allocA A25 rfl rfl ?_)
    generalize W.alloc (.cells (hc zeros) 39) = W1 at *
    generalize W.heap.size = gr at *
    have x1 := World.rowIs.cell J1.out.row (i := 1) (by decide)
    rw [show rc5 n (.slice (some ⟨gb, ob, none⟩) (bs.length + 1) cb) vi vp vm 1 = .slice (some ⟨gb, ob, none⟩) (bs.length + 1) cb from rfl] at x1
    have f1 := World.rowIs.frozen J1.out.row 1
    go_upto_region 5 with fail
    generalize (if cb = 1 then some ({ block := gb, off := ob } : Addr) else some { block := gb, off := ob + 1 }) = ab2 at *
    have J2 := hide (J1.out.setB TL.out)
    have P2 := hide (P1.out.setT J1.out.tfar 1 (.slice ab2 bs.length (cb - 1)))
    generalize cb - 1 = cb2 at *
    clear x1 f1 c1 hl1 hl2 hl3 hl4 hcb J1 P1 TL J0
    generalize W1.setCell ⟨gt, 1, none⟩ (.slice ab2 bs.length cb2) = W2 at *
    by_cases hin : b = true ∧ k ≠ 0
    · obtain ⟨rfl, hk0⟩ := hin
      obtain ⟨k', hkk⟩ : ∃ k', k = k' + 1 := ⟨k - 1, by omega⟩
      have HI := hide (HIH.out k' hkk _ _ _ _ _ _ _ _ _ J2.out (by rw [← hkk]; exact HB.out.1) (by rw [← hkk]; exact HB.out.2))
      have h5 : (0 : Int) < (k : Int) := by omega
      obtain ⟨hk, hp⟩ := HK.out
      have w1 : IntKind.i64.wrap ((k : Int) - 1) = (k' : Int) := by rw [wrapI _ (by omega) (by omega)]; omega
      have w2 : IntKind.i64.wrap (2 * (p : Int)) = ((2 * p : Nat) : Int) := by rw [wrapI _ (by omega) (by omega)]; omega
      have HR : Hid (RD = rdP n k' (2 * p) bs is) := by
        show _ = _
        rw [← HRD.out, hkk]
        rfl
      clear HIH HB hk0 hkk hk hp HRD hlf
      generalize 2 * p = q at *
      cases hr : rdP n k' q bs is with
      | none =>
        rw [hr] at HI HR
        clear hr
        go_wp2_with (first | (go_at_call 37; refine HI.out.mono ?_; rintro e w3 ⟨vp3, vm3, o3, be3, ra⟩; have ra2 : e = .returned (.tuple #[.agg (hc zeros), .bool false]) := ra; subst ra2; clear ra; have P3 := hide (P2.out.call o3 be3); clear o3 be3) | refine wpList_storeA A25 rfl _ _ rfl gr (hc zeros) (by rw [hc_size, zeros_len]) (hc_one _) rfl rfl (hc zeros) (by rw [hc_size, zeros_len]) 39 P3.out.res ?_)
        exact bodyPost_ret (v := .tuple #[.agg (hc zeros), .bool false]) (resAB A25 Tryd.results24 _ _ gr 39 (hc zeros) (by rw [hc_size, zeros_len]) rfl (setRow_heap _ _ _ _ _ _ P3.out.res) _ (by rfl)) rfl ⟨vp3, vm3, (P3.out.fin _).1, (P3.out.fin _).2, by rw [HR.out]; exact rfl⟩
      | some r =>
        rw [hr] at HI HR
        clear hr
        obtain ⟨X, bs3, is3, ps3, ms3⟩ := r
        go_wp2_with (first | (go_at_call 37; refine HI.out.mono ?_; rintro e w3 ⟨vp3, vm3, o3, be3, ra⟩; obtain ⟨ra2, ra3, vb3, vi3, j3⟩ := ra; simp only at ra2 ra3 j3; subst ra2; have LP := hide ra3; have J3 := hide j3; have P3 := hide (P2.out.call o3 be3); clear o3 be3 ra3 j3) | refine wpList_storeA A25 rfl _ _ rfl gr (hc X) (by rw [hc_size, LP.out]) (hc_one _) rfl rfl (hc zeros) (by rw [hc_size, zeros_len]) 39 P3.out.res ?_)
        exact bodyPost_ret (v := .tuple #[.agg (hc X), .bool true]) (resAB A25 Tryd.results24 _ _ gr 39 (hc X) (by rw [hc_size, LP.out]) rfl (setRow_heap _ _ _ _ _ _ P3.out.res) _ (by rfl)) rfl ⟨vp3, vm3, (P3.out.fin _).1, (P3.out.fin _).2, by rw [HR.out]; exact ⟨rfl, LP.out, vb3, vi3, P3.out.rr _ J3.out⟩⟩
    · have hcs : b = false ∨ (b = true ∧ k = 0) := by
        cases b
        · exact .inl rfl
        · refine .inr ⟨rfl, ?_⟩
          by_cases h : k = 0
          · exact h
          · exact absurd ⟨rfl, h⟩ hin
      have hnil : is = [] := by
        cases is with
        | nil => rfl
        | cons x is' => exact absurd ⟨x, is', rfl, hcs.imp id And.right⟩ hlf
      subst hnil
      clear hin HIH hlf
      obtain ⟨ai, ci, rfl⟩ := J2.out.ids.form
      have x2 := World.rowIs.cell J2.out.row (i := 2) (by decide)
      rw [show rc5 n (.slice ab2 bs.length cb2) (.slice ai ([] : List (List UInt8)).length ci) vp vm 2 = .slice ai 0 ci from rfl] at x2
      have HR : Hid (RD = none) := by
        show _ = _
        rw [← HRD.out]
        rcases hcs with rfl | ⟨rfl, rfl⟩
        · cases k <;> rfl
        · rfl
      have hk0 : b = false ∨ b = true ∧ ¬ (0 : Int) < (k : Int) := by
        rcases hcs with h | ⟨h, rfl⟩
        · exact .inl h
        · exact .inr ⟨h, by decide⟩
      clear hcs HB HRD
      rcases hk0 with rfl | ⟨rfl, hk0⟩
      all_goals
        go_wp2_with (first | refine wpList_buildA A25 rfl rfl ?_ | refine wpList_storeA A25 rfl _ _ rfl gr (hc zeros) (by rw [hc_size, zeros_len]) (hc_one _) rfl rfl (hc zeros) (by rw [hc_size, zeros_len]) 39 P2.out.res ?_)
        exact bodyPost_ret (v := .tuple #[.agg (hc zeros), .bool false]) (resAB A25 Tryd.results24 _ _ gr 39 (hc zeros) (by rw [hc_size, zeros_len]) rfl (setRow_heap _ _ _ _ _ _ P2.out.res) _ (by rfl)) rfl ⟨vp, vm, (P2.out.fin _).1, (P2.out.fin _).2, by rw [HR.out]; exact rfl⟩
end
end Go.Proofs.YthlaibkdcebekaaDoor
