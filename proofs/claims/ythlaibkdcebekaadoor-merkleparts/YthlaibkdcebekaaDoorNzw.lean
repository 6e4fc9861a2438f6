/- The contract of the document's width; the answers of the document's read laid one after the other. -/
import Derived.Test.YthlaibkdcebekaaDoorNza
namespace Go.Proofs.YthlaibkdcebekaaDoor
open Go.RowKit
open Go.Deep
section
set_option maxRecDepth 10000
set_option maxHeartbeats 4000000
theorem rwidth_any (n k : Nat) (hn : n < 4611686018427387904) (hk : k < 4611686018427387904) (w : World) : Calls Tryd.prog 38 #[.int .i64 (n : Int), .int .i64 (k : Int)] w fun e w' => e = .returned (.int .i64 ((wdt n k : Nat) : Int)) ∧ w' = w := by
  have HN := hide (And.intro hn hk)
  clear hn hk
  go_enter Tryd.func38, Tryd.ntmps38
  go_wp2
  go_loop [0, 5] (fun x i => ∃ m j : Nat, j ≤ k ∧ m < 4611686018427387904 ∧ x = .int .i64 (m : Int) ∧ i = .int .i64 (j : Int) ∧ Hid (wdt m (k - j) = wdt n k)) (fun _ i => (k - intOf i).toNat)
  case atStart => exact ⟨n, 0, by omega, HN.out.1, rfl, rfl, rfl⟩
  case round =>
    obtain ⟨m, j, hj, hm, rfl, rfl, HW⟩ := hrel
    have hk := HN.out.2
    by_cases hlt : j < k
    · have h1 : (j : Int) < (k : Int) := by omega
      have hw : wdt ((m + 1) / 2) (k - (j + 1)) = wdt n k := by
        rw [← HW.out, show k - j = (k - (j + 1)) + 1 by omega]
        rfl
      have e1 : IntKind.i64.wrap ((m : Int) / 2 + (m : Int) % 2) = (((m + 1) / 2 : Nat) : Int) := by rw [wrapI _ (by omega) (by omega)]; omega
      have hjw : IntKind.i64.wrap ((j : Int) + 1) = j + 1 := wrapI _ (by omega) (by omega)
      have HW2 := hide hw
      have m0 : (0 : Int) ≤ m := by omega
      clear hw HW
      go_wp2
      go_round
      case rel => exact ⟨(m + 1) / 2, j + 1, by omega, by omega, by first | rfl | (congr 1; omega), by go_num, HW2⟩
      case measure => simp [intOf]; omega
    · have h1 : ¬ (j : Int) < (k : Int) := by omega
      have he : m = wdt n k := by
        have := HW.out
        rw [show k - j = 0 by omega] at this
        exact this
      have HE := hide he
      clear HW hlt hj he
      go_wp2
      go_ret
      exact ⟨by rw [HE.out]; rfl, rfl⟩
end
/-- The first of the two answers is laid. -/
structure Dh (B W0 : World) (vp0 vm0 : Value) (g6 g7 : Nat) (R : Array Value) (W : World) (vp vm : Value) (ps : List Nat) (ms : List (List UInt8)) : Prop extends Es B W vp vm ps ms where
  on : On2 W0 W vp0 vm0 vp vm
  s0 : B.heap.size ≤ W0.heap.size
  h7 : W0.heap.size ≤ g7
  r6 : W.heap[g6]? = some (.cells R 68 (0, 0))
  r7 : W.heap[g7]? = some (.cells (hc zeros) 38 (0, 0))
  n67 : g6 ≠ g7
  m7 : vm.ownBlock ≠ some g7
section
variable {B W0 W W' : World} {vp0 vm0 vb vi vp vm : Value} {g3 g6 g7 n b i : Nat} {wr : Bool} {ps : List Nat} {ms : List (List UInt8)} {R : Array Value}
theorem Dm.half (D : Dm B W0 vp0 vm0 g3 g6 g7 n vb vi W b i vp vm wr ps ms) (R : Array Value) : Dh B W0 vp0 vm0 g6 g7 R (W.setRow g6 R) vp vm ps ms :=
  ⟨D.toEs.kept (below_setRow D.bel (Nat.le_trans D.s0 D.h6) _) (fun g hg => setRow_other _ _ _ _ (fun x => oi_blk D.pl D.r6 (by decide) (hg.trans (congrArg some x)))) (fun g hg => setRow_other _ _ _ _ (fun x => oh_blk D.mt D.r6 (by decide) (hg.trans (congrArg some x)))), D.on.setRow D.h6 _, D.s0, D.h7, setRow_heap _ _ _ _ _ _ D.r6, (setRow_other _ _ _ _ (Ne.symm D.n67)).trans D.r7, D.n67, D.m7⟩
theorem Dh.next (D : Dh B W0 vp0 vm0 g6 g7 R W vp vm ps ms) (h : Below W.heap.size W W') : Dh B W0 vp0 vm0 g6 g7 R W' vp vm ps ms :=
  ⟨D.toEs.next h, D.on.trans (On2.of_below h _ _), D.s0, D.h7, (h.block _ (lt_heap D.r6)).trans D.r6, (h.block _ (lt_heap D.r7)).trans D.r7, D.n67, D.m7⟩
theorem Dh.fin (D : Dh B W0 vp0 vm0 g6 g7 R W vp vm ps ms) (id : List UInt8) : (W.setRow g7 (hc id)).heap[g6]? = some (.cells R 68 (0, 0)) ∧ (W.setRow g7 (hc id)).heap[g7]? = some (.cells (hc id) 38 (0, 0)) ∧ Es B (W.setRow g7 (hc id)) vp vm ps ms ∧ On2 W0 (W.setRow g7 (hc id)) vp0 vm0 vp vm :=
  ⟨(setRow_other _ _ _ _ D.n67).trans D.r6, setRow_heap _ _ _ _ _ _ D.r7, D.toEs.kept (below_setRow D.bel (Nat.le_trans D.s0 D.h7) _) (fun g hg => setRow_other _ _ _ _ (fun x => oi_blk D.pl D.r7 (by decide) (hg.trans (congrArg some x)))) (fun g hg => setRow_other _ _ _ _ (fun x => D.m7 (hg.trans (congrArg some x)))), D.on.setRow D.h7 _⟩
/-- A row of another block of the call's own is laid. -/
theorem Dm.aside (D : Dm B W0 vp0 vm0 g3 g6 g7 n vb vi W b i vp vm wr ps ms) {g : Nat} (hg : W0.heap.size ≤ g) (n3 : g ≠ g3) (n6 : g ≠ g6) (n7 : g ≠ g7) (np : vp.ownBlock ≠ some g) (nm : vm.ownBlock ≠ some g) (cs : Array Value) : Dm B W0 vp0 vm0 g3 g6 g7 n vb vi (W.setRow g cs) b i vp vm wr ps ms :=
  ⟨D.toEs.kept (below_setRow D.bel (Nat.le_trans D.s0 hg) _) (fun _ hx => setRow_other _ _ _ _ (fun y => np (hx.trans (congrArg some y)))) (fun _ hx => setRow_other _ _ _ _ (fun y => nm (hx.trans (congrArg some y)))), D.on.setRow hg _, D.s0, D.h3, D.h6, D.h7, (setRow_other _ _ _ _ (Ne.symm n3)).trans D.r3, (setRow_other _ _ _ _ (Ne.symm n6)).trans D.r6, (setRow_other _ _ _ _ (Ne.symm n7)).trans D.r7, D.n36, D.m7⟩
/-- The answer of a call is laid: its reader in the copy, its id in a new place. -/
theorem Dm.laid (D : Dm B W0 vp0 vm0 g3 g6 g7 n vb vi W b i vp vm wr ps ms) {vp' vm' : Value} {ps' : List Nat} {ms' : List (List UInt8)} (o : On2 W W' vp vm vp' vm') (e : Es B W' vp' vm' ps' ms') (b' i' : Nat) (wr' : Bool) (id : List UInt8) :
    Dm B W0 vp0 vm0 g3 g6 g7 n vb vi (((W'.alloc (.cells (hc zeros) 38)).setRow g3 (r8 n vb vi b' i' vp' vm' wr')).setRow W'.heap.size (hc id)) b' i' vp' vm' wr' ps' ms' ∧
    (W'.alloc (.cells (hc zeros) 38)).heap[g3]? = some (.cells (r8 n vb vi b i vp vm wr) 68 (0, 0)) ∧
    ((W'.alloc (.cells (hc zeros) 38)).setRow g3 (r8 n vb vi b' i' vp' vm' wr')).heap[W'.heap.size]? = some (.cells (hc zeros) 38 (0, 0)) ∧
    (((W'.alloc (.cells (hc zeros) 38)).setRow g3 (r8 n vb vi b' i' vp' vm' wr')).setRow W'.heap.size (hc id)).heap[W'.heap.size]? = some (.cells (hc id) 38 (0, 0)) ∧
    W'.heap.size ≠ g3 ∧ W'.heap.size ≠ g6 ∧ W'.heap.size ≠ g7 ∧ vp'.ownBlock ≠ some W'.heap.size ∧ vm'.ownBlock ≠ some W'.heap.size := by
  obtain ⟨k3, k6, k7, m7⟩ := D.over o
  have bl : Below W'.heap.size W' (W'.alloc (.cells (hc zeros) 38)) := (Below.refl _ _).alloc (Nat.le_refl _) _
  have n3 : W'.heap.size ≠ g3 := fun x => by have := lt_heap k3; omega
  have n6 : W'.heap.size ≠ g6 := fun x => by have := lt_heap k6; omega
  have n7 : W'.heap.size ≠ g7 := fun x => by have := lt_heap k7; omega
  have np : vp'.ownBlock ≠ some W'.heap.size := fun x => by have := e.pl.lt _ x; omega
  have nm : vm'.ownBlock ≠ some W'.heap.size := fun x => by have := e.mt.lt _ x; omega
  have D1 : Dm B W0 vp0 vm0 g3 g6 g7 n vb vi ((W'.alloc (.cells (hc zeros) 38)).setRow g3 (r8 n vb vi b' i' vp' vm' wr')) b' i' vp' vm' wr' ps' ms' := D.call (o.trans (On2.of_below bl _ _)) (e.next bl)
  have hz : ((W'.alloc (.cells (hc zeros) 38)).setRow g3 (r8 n vb vi b' i' vp' vm' wr')).heap[W'.heap.size]? = some (.cells (hc zeros) 38 (0, 0)) := (setRow_other _ _ _ _ n3).trans (heap_alloc_last _ _)
  exact ⟨D1.aside (Nat.le_trans D.on.size o.size) n3 n6 n7 np nm _, (bl.block _ (lt_heap k3)).trans k3, hz, setRow_heap _ _ _ _ _ _ hz, n3, n6, n7, np, nm⟩
end
end Go.Proofs.YthlaibkdcebekaaDoor
