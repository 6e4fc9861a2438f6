/- Four words in a block, and a round: the contracts of sip.Round and the document's Round. -/
import Derived.Test.YtpjpnkohagcegaaDoorYa
namespace Go.Proofs.YtpjpnkohagcegaaDoor
open Go.RowKit
open Go.Deep
/-- Four words. -/
structure Q4 where
  a : UInt64
  b : UInt64
  c : UInt64
  d : UInt64
def Q4.list (v : Q4) : List UInt64 := [v.a, v.b, v.c, v.d]
/-- A round. -/
def Q4.round (v : Q4) : Q4 :=
  let a1 := v.a + v.b
  let b1 := rot v.b 13 ^^^ a1
  let a2 := rot a1 32
  let c1 := v.c + v.d
  let d1 := rot v.d 16 ^^^ c1
  let a3 := a2 + d1
  let d2 := rot d1 21 ^^^ a3
  let c2 := c1 + b1
  let b2 := rot b1 17 ^^^ c2
  let c3 := rot c2 32
  ⟨a3, b2, c3, d2⟩
/-- Words of 64 bits as cells. -/
def qc (l : List UInt64) : Array Value := (l.map fun x => Value.int .u64 (x.toNat : Int)).toArray
theorem qc_size (l : List UInt64) : (qc l).size = l.length := by simp [qc]
theorem qc_one (l : List UInt64) : (qc l).all (·.oneCell') = true := by
  rw [Array.all_eq_true_iff_forall_mem]
  intro v hv
  simp only [qc, List.mem_toArray, List.mem_map] at hv
  obtain ⟨b, _, rfl⟩ := hv
  rfl
theorem qc_at (l : List UInt64) (k : Nat) (hk : k < l.length) : (qc l)[k]? = some (.int .u64 ((l.getD k 0).toNat : Int)) := by
  simp [qc, hk]
def qz : Q4 := ⟨0, 0, 0, 0⟩
theorem A4 : Arr 78 4 (qc qz.list) := ⟨.inl ⟨_, _, Tryd.underlying78⟩, by kernel_rfl, fun w => by kernel_rfl, fun w => by kernel_rfl, rfl⟩
def qF (a b c d : UInt64) (j : Nat) : Value := .int .u64 (([a, b, c, d].getD j 0).toNat : Int)
/-- Four words at block g. -/
def Qd (W : World) (g : Nat) (a b c d : UInt64) : Prop := W.rowIs g 78 4 (qF a b c d)
section
variable {W W' : World} {g : Nat} {a b c d : UInt64}
theorem Qd.heap (h : Qd W g a b c d) : W.heap[g]? = some (.cells (qc [a, b, c, d]) 78 (0, 0)) :=
  of_row rfl h (fun i hi => qc_at _ i hi)
theorem Qd.of_heap (h : W.heap[g]? = some (.cells (qc [a, b, c, d]) 78 (0, 0))) : Qd W g a b c d :=
  row_of rfl h (fun i hi => qc_at _ i hi)
theorem Qd.lt (h : Qd W g a b c d) : g < W.heap.size := World.rowIs.lt h
theorem Qd.of_block (h : Qd W g a b c d) (e : W'.heap[g]? = W.heap[g]?) : Qd W' g a b c d := World.rowIs.of_block h e
theorem Qd.fz (h : Qd W g a b c d) (i : Nat) : W.frozen? ⟨g, i, none⟩ = false := World.rowIs.frozen h i
theorem Qd.c0 (h : Qd W g a b c d) : W.cell? ⟨g, 0, none⟩ = some (.int .u64 (a.toNat : Int)) := World.rowIs.cell h (by omega)
theorem Qd.c1 (h : Qd W g a b c d) : W.cell? ⟨g, 1, none⟩ = some (.int .u64 (b.toNat : Int)) := World.rowIs.cell h (by omega)
theorem Qd.c2 (h : Qd W g a b c d) : W.cell? ⟨g, 2, none⟩ = some (.int .u64 (c.toNat : Int)) := World.rowIs.cell h (by omega)
theorem Qd.c3 (h : Qd W g a b c d) : W.cell? ⟨g, 3, none⟩ = some (.int .u64 (d.toNat : Int)) := World.rowIs.cell h (by omega)
theorem Qd.s0 (h : Qd W g a b c d) (x : UInt64) : Qd (W.setCell ⟨g, 0, none⟩ (.int .u64 (x.toNat : Int))) g x b c d := by
  refine (World.rowIs.set h 0 _).congr (fun j hj => ?_)
  rcases j with _ | _ | _ | _ | j <;> first | rfl | omega
theorem Qd.s1 (h : Qd W g a b c d) (x : UInt64) : Qd (W.setCell ⟨g, 1, none⟩ (.int .u64 (x.toNat : Int))) g a x c d := by
  refine (World.rowIs.set h 1 _).congr (fun j hj => ?_)
  rcases j with _ | _ | _ | _ | j <;> first | rfl | omega
theorem Qd.s2 (h : Qd W g a b c d) (x : UInt64) : Qd (W.setCell ⟨g, 2, none⟩ (.int .u64 (x.toNat : Int))) g a b x d := by
  refine (World.rowIs.set h 2 _).congr (fun j hj => ?_)
  rcases j with _ | _ | _ | _ | j <;> first | rfl | omega
theorem Qd.s3 (h : Qd W g a b c d) (x : UInt64) : Qd (W.setCell ⟨g, 3, none⟩ (.int .u64 (x.toNat : Int))) g a b c x := by
  refine (World.rowIs.set h 3 _).congr (fun j hj => ?_)
  rcases j with _ | _ | _ | _ | j <;> first | rfl | omega
end
/-- What is known of the world in a function that keeps four words in a block of its own, and answers four in the next one. -/
structure Rw (w W : World) (g : Nat) (a b c d : UInt64) : Prop where
  q : Qd W g a b c d
  r : W.heap[g + 1]? = some (.cells (qc qz.list) 78 (0, 0))
  b : Below g w W
theorem blk_other (W : World) (g i k : Nat) (v : Value) (h : k ≠ g) : (W.setCell ⟨g, i, none⟩ v).heap[k]? = W.heap[k]? := Below.heap_setCell _ _ _ _ h
section
variable {w W : World} {g : Nat} {a b c d : UInt64}
theorem Rw.s0 (j : Rw w W g a b c d) (x : UInt64) : Rw w (W.setCell ⟨g, 0, none⟩ (.int .u64 (x.toNat : Int))) g x b c d :=
  ⟨j.q.s0 x, (blk_other W g 0 (g + 1) _ (by omega)).trans j.r, j.b.setCell (Nat.le_refl _) _⟩
theorem Rw.s1 (j : Rw w W g a b c d) (x : UInt64) : Rw w (W.setCell ⟨g, 1, none⟩ (.int .u64 (x.toNat : Int))) g a x c d :=
  ⟨j.q.s1 x, (blk_other W g 1 (g + 1) _ (by omega)).trans j.r, j.b.setCell (Nat.le_refl _) _⟩
theorem Rw.s2 (j : Rw w W g a b c d) (x : UInt64) : Rw w (W.setCell ⟨g, 2, none⟩ (.int .u64 (x.toNat : Int))) g a b x d :=
  ⟨j.q.s2 x, (blk_other W g 2 (g + 1) _ (by omega)).trans j.r, j.b.setCell (Nat.le_refl _) _⟩
theorem Rw.s3 (j : Rw w W g a b c d) (x : UInt64) : Rw w (W.setCell ⟨g, 3, none⟩ (.int .u64 (x.toNat : Int))) g a b c x :=
  ⟨j.q.s3 x, (blk_other W g 3 (g + 1) _ (by omega)).trans j.r, j.b.setCell (Nat.le_refl _) _⟩
theorem Rw.drewN (j : Rw w W g a b c d) (n : Nat) : Rw w (W.drewN n) g a b c d := ⟨j.q, j.r, below_drewN j.b n⟩
theorem Rw.drew (j : Rw w W g a b c d) : Rw w W.drew g a b c d := ⟨j.q, j.r, j.b.drew⟩
end
theorem blk2q (w : World) (A B : Obj) : ((w.alloc A).alloc B).heap[w.heap.size]? = some A ∧ ((w.alloc A).alloc B).heap[w.heap.size + 1]? = some B := by
  have e1 := heap_alloc_last w A
  have e2 := heap_alloc_last (w.alloc A) B
  have s1 : (w.alloc A).heap.size = w.heap.size + 1 := by simp
  rw [s1] at e2
  exact ⟨(Below.heap_alloc _ B _ (by omega)).trans e1, e2⟩
theorem below2q (w : World) (A B : Obj) : Below w.heap.size w ((w.alloc A).alloc B) :=
  ((Below.refl _ _).alloc (Nat.le_refl _) _).alloc (by simp) _
theorem Rw.start (w : World) (v : Q4) : Rw w ((w.alloc (.cells (qc v.list) 78)).alloc (.cells (qc qz.list) 78)) w.heap.size v.a v.b v.c v.d :=
  ⟨Qd.of_heap (blk2q w _ _).1, (blk2q w _ _).2, below2q w _ _⟩
theorem addWQ (x y : UInt64) : IntKind.u64.wrap ((x.toNat : Int) + (y.toNat : Int)) = ((x + y).toNat : Int) := by
  rw [wrapQ, addQ]
end Go.Proofs.YtpjpnkohagcegaaDoor
