/- The contract of read at a position of which its id is told: not meant. -/
import Derived.Test.YthlaibkdcebekaaDoorNu0
namespace Go.Proofs.YthlaibkdcebekaaDoor
open Go.RowKit
open Go.Deep
section
set_option maxRecDepth 10000
set_option maxHeartbeats 4000000
theorem read_leaf0 {B : World} {gt n : Nat} (k p : Nat) (vb vi vp vm : Value) (bs : List Bool) (x : List UInt8) (is : List (List UInt8)) (ps : List Nat) (ms : List (List UInt8)) (W : World) (J : Rr B W gt n vb vi vp vm (false :: bs) (x :: is) ps ms) :
    Calls Tryd.prog 24 #[.pointer (some ⟨gt, 0, none⟩), .int .i64 (k : Int), .int .i64 (p : Int)] W fun e w' => ∃ vp' vm', On3 gt W w' vp vm vp' vm' ∧ Below B.heap.size B w' ∧ RA B w' gt n vp' vm' ps ms (some ⟨x, bs, is, [], []⟩) e := by
  have P1 := hide (Pq.start J)
  have J1 := hide (J.next ((Below.refl _ _).alloc (Nat.le_refl _) (.cells (hc zeros) 39)))
  clear J
  generalize hRD : (some (⟨x, bs, is, [], []⟩ : Rd)) = RD at *
  have HR : Hid (RD = some ⟨x, bs, is, [], []⟩) := hRD.symm
  clear hRD
  obtain ⟨ab, cb, rfl, hcb⟩ := J1.out.bits.form
  obtain ⟨gb, ob, rfl⟩ := J1.out.bits.base (by simp)
  have c1 := ((J1.out.bits.below J1.out.bel).cell 0 (by simp))
  rw [show (false :: bs).getD 0 false = false from rfl, Nat.add_zero] at c1
  have TL := hide J1.out.bits.tail2
  rw [List.length_cons] at *
  have hl1 : (((bs.length : Int) + 1) == 0) = false := by rw [beq_eq_false_iff_ne]; omega
  have hl2 : (0 : Int) < (bs.length : Int) + 1 := by omega
  have hl3 : (1 : Int) ≤ (bs.length : Int) + 1 := by omega
  have hl4 : (bs.length : Int) + 1 ≤ (cb : Int) := by omega
  go_enter Tryd.func24, Tryd.ntmps24
  go_upto_region 1 with (first | refine wpList_allocA A25 rfl rfl ?_)
  generalize W.alloc (.cells (hc zeros) 39) = W1 at *
  generalize W.heap.size = gr at *
  have x1 := World.rowIs.cell J1.out.row (i := 1) (by decide)
  rw [show rc5 n (.slice (some ⟨gb, ob, none⟩) (bs.length + 1) cb) vi vp vm 1 = .slice (some ⟨gb, ob, none⟩) (bs.length + 1) cb from rfl] at x1
  have f1 := World.rowIs.frozen J1.out.row 1
  go_upto_region 5 with fail
  generalize (if cb = 1 then some ({ block := gb, off := ob } : Addr) else some { block := gb, off := ob + 1 }) = ab2 at *
  have J2 := hide (J1.out.setB TL.out)
  have P2 := hide (P1.out.setT J1.out.tfar 1 (.slice ab2 bs.length (cb - 1)))
  generalize cb - 1 = cb2 at *
  clear x1 f1 c1 hl1 hl2 hl3 hl4 hcb J1 P1 TL
  generalize W1.setCell ⟨gt, 1, none⟩ (.slice ab2 bs.length cb2) = W2 at *
  obtain ⟨ai, ci, rfl⟩ := J2.out.ids.form
  obtain ⟨gi, oi, rfl⟩ := J2.out.ids.base (by simp)
  have hci : (x :: is).length ≤ ci := by
    obtain ⟨_, ao, cap, e, h1, _⟩ := J2.out.ids
    cases e
    exact h1
  have LX := hide J2.out.ids.1.head
  have RX := hide ((J2.out.ids.below J2.out.bel).range 0 (by simp))
  rw [show ia (x :: is) 0 = x from rfl, Nat.zero_mul, Nat.add_zero] at RX
  have TI := hide J2.out.ids.tail2
  rw [List.length_cons] at *
  have hl1 : (((is.length : Int) + 1) == 0) = false := by rw [beq_eq_false_iff_ne]; omega
  have hl2 : (0 : Int) < (is.length : Int) + 1 := by omega
  have hl3 : (1 : Int) ≤ (is.length : Int) + 1 := by omega
  have hl4 : (is.length : Int) + 1 ≤ (ci : Int) := by omega
  clear hci
  have x2 := World.rowIs.cell J2.out.row (i := 2) (by decide)
  rw [show rc5 n (.slice ab2 bs.length cb2) (.slice (some ⟨gi, oi, none⟩) (is.length + 1) ci) vp vm 2 = .slice (some ⟨gi, oi, none⟩) (is.length + 1) ci from rfl] at x2
  go_upto_region 9 with fail
  have b3 : Below W2.heap.size W2 (W2.alloc (.cells (hc x) 39)) := (Below.refl _ _).alloc (Nat.le_refl _) _
  have J3 := hide (J2.out.next b3)
  have P3 := hide (P2.out.next b3)
  have R3 := hide (heap_alloc_last W2 (.cells (hc x) 39))
  have D3 : Hid (W2.heap.size ≠ gt ∧ vp.ownBlock ≠ some W2.heap.size ∧ vm.ownBlock ≠ some W2.heap.size) :=
    ⟨fun e => by have := World.rowIs.lt J2.out.row; omega, fun e => by have := J2.out.pl.lt _ e; omega, fun e => by have := J2.out.mt.lt _ e; omega⟩
  clear b3
  go_upto_region 10 with (first | refine ET.wpLoad EH rfl _ rfl gi oi rfl x LX.out RX.out ?_ | refine wpList_allocA A25 rfl rfl ?_ | refine wpList_store_newA A25 rfl _ _ rfl _ rfl (hc x) (by rw [hc_size, LX.out]) (hc_one _) rfl rfl ?_)
  generalize W2.alloc (.cells (hc x) 39) = W3 at *
  generalize W2.heap.size = g9 at *
  clear x2 J2 P2 RX
  have y2 := World.rowIs.cell J3.out.row (i := 2) (by decide)
  have f2 := World.rowIs.frozen J3.out.row 2
  rw [show rc5 n (.slice ab2 bs.length cb2) (.slice (some ⟨gi, oi, none⟩) (is.length + 1) ci) vp vm 2 = .slice (some ⟨gi, oi, none⟩) (is.length + 1) ci from rfl] at y2
  go_upto_region 11 with fail
  generalize (if ci = 1 then some ({ block := gi, off := oi } : Addr) else some { block := gi, off := oi + 32 }) = ai2 at *
  have J4 := hide (J3.out.setI TI.out)
  have P4 := hide (P3.out.setT J3.out.tfar 2 (.slice ai2 is.length (ci - 1)))
  have R4 := hide ((Below.heap_setCell W3 ⟨gt, 2, none⟩ (.slice ai2 is.length (ci - 1)) g9 D3.out.1).trans R3.out)
  generalize ci - 1 = ci2 at *
  clear y2 f2 hl1 hl2 hl3 hl4 J3 P3 R3 TI
  generalize W3.setCell ⟨gt, 2, none⟩ (.slice ai2 is.length ci2) = W4 at *
  have PZ := P4
  have RZ := R4
  have JZ := J4
  clear P4 R4 J4
  go_wp2_with (first | refine wpList_loadG6 A25 _ rfl g9 rfl (hc x) (by rw [hc_size, LX.out]) 39 RZ.out rfl ?_ | refine wpList_storeA A25 rfl _ _ rfl gr (hc x) (by rw [hc_size, LX.out]) (hc_one _) rfl rfl (hc zeros) (by rw [hc_size, zeros_len]) 39 PZ.out.res ?_)
  exact bodyPost_ret (v := .tuple #[.agg (hc x), .bool true]) (resAB A25 Tryd.results24 _ _ gr 39 (hc x) (by rw [hc_size, LX.out]) rfl (setRow_heap _ _ _ _ _ _ PZ.out.res) _ (by rfl)) rfl ⟨vp, vm, (PZ.out.fin _).1, (PZ.out.fin _).2, by rw [HR.out]; exact ⟨rfl, LX.out, _, _, by rw [List.append_nil, List.append_nil]; exact PZ.out.rr _ JZ.out⟩⟩
end
end Go.Proofs.YthlaibkdcebekaaDoor
