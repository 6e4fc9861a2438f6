/- What the document's part holds: its own copy of what was told, and its answer's place. -/
import Derived.Test.YthlaibkdcebekaaDoorNi
namespace Go.Proofs.YthlaibkdcebekaaDoor
open Go.RowKit
open Go.Deep
/-- The cells of what was told. -/
def pc (n : Nat) (vb vi : Value) (i : Nat) : Value := if i = 0 then .int .i64 (n : Int) else if i = 1 then vb else vi
/-- What was told, as a value: lists made behind B. -/
structure Ps (B W : World) (vb vi : Value) (bs : List Bool) (is : List (List UInt8)) : Prop where
  bel : Below B.heap.size B W
  bits : OB W vb bs
  bfar : ∀ g, vb.ownBlock = some g → B.heap.size ≤ g
  ids : OH 38 W vi is
  ifar : ∀ g, vi.ownBlock = some g → B.heap.size ≤ g
/-- .. and in its place at block gt, with an answer's place at block gh. -/
structure Us (B W : World) (gt gh : Nat) (n : Nat) (vb vi : Value) (bs : List Bool) (is : List (List UInt8)) : Prop extends Ps B W vb vi bs is where
  tfar : B.heap.size ≤ gt
  hfar : B.heap.size ≤ gh
  ne : gt ≠ gh
  row : W.rowIs gt 33 3 (pc n vb vi)
  res : W.rowIs gh 33 3 (pc 0 (.slice none 0 0) (.slice none 0 0))
section
variable {B W W' : World} {gt gh n : Nat} {vb vi v' : Value} {bs bs' : List Bool} {is is' : List (List UInt8)}
theorem ob_not {f : Nat → Value} (o : OB W vb bs) (r : W.rowIs gt 33 3 f) : vb.ownBlock ≠ some gt := fun e => by
  rcases o.2 with ⟨rfl, _⟩ | ⟨g1, cap, cur, rfl, _, hg, _⟩
  · cases e
  · cases e
    obtain ⟨c, hc, _⟩ := r
    rw [hg] at hc
    injection hc with hc
    injection hc with _ e2
    exact absurd e2 (by decide)
theorem oh_not {f : Nat → Value} (o : OH 38 W vi is) (r : W.rowIs gt 33 3 f) : vi.ownBlock ≠ some gt := fun e => by
  rcases o.2.2 with ⟨rfl, _⟩ | ⟨g1, cap, cur, rfl, _, hg, _⟩
  · cases e
  · cases e
    obtain ⟨c, hc, _⟩ := r
    rw [hg] at hc
    injection hc with hc
    injection hc with _ e2
    exact absurd e2 (by decide)
theorem Ps.bi (j : Ps B W vb vi bs is) : ∀ g, vb.ownBlock = some g → vi.ownBlock ≠ some g := fun g h1 h2 => by
  rcases j.bits.2 with ⟨rfl, _⟩ | ⟨g1, cap, cur, rfl, _, hg, _⟩
  · cases h1
  · rcases j.ids.2.2 with ⟨rfl, _⟩ | ⟨g2, cap2, cur2, rfl, _, hg2, _⟩
    · cases h2
    · cases h1
      cases h2
      rw [hg] at hg2
      injection hg2 with hg2
      injection hg2 with _ e2
      exact absurd e2 (by decide)
theorem Ps.next (j : Ps B W vb vi bs is) (h : Below W.heap.size W W') : Ps B W' vb vi bs is :=
  ⟨below_next j.bel h, j.bits.below h, j.bfar, j.ids.below h, j.ifar⟩
theorem Us.next (j : Us B W gt gh n vb vi bs is) (h : Below W.heap.size W W') : Us B W' gt gh n vb vi bs is :=
  ⟨j.toPs.next h, j.tfar, j.hfar, j.ne, World.rowIs.of_block j.row (h.block _ (World.rowIs.lt j.row)), World.rowIs.of_block j.res (h.block _ (World.rowIs.lt j.res))⟩
theorem Us.rowB (j : Us B W gt gh n vb vi bs is) (h : Onto W W' vb v') : W'.rowIs gt 33 3 (pc n vb vi) :=
  World.rowIs.of_block j.row (h.grown.block _ (World.rowIs.lt j.row) (fun e => ob_not j.bits j.row e.symm))
theorem Us.resB (j : Us B W gt gh n vb vi bs is) (h : Onto W W' vb v') : W'.rowIs gh 33 3 (pc 0 (.slice none 0 0) (.slice none 0 0)) :=
  World.rowIs.of_block j.res (h.grown.block _ (World.rowIs.lt j.res) (fun e => ob_not j.bits j.res e.symm))
theorem Us.rowI (j : Us B W gt gh n vb vi bs is) (h : Onto W W' vi v') : W'.rowIs gt 33 3 (pc n vb vi) :=
  World.rowIs.of_block j.row (h.grown.block _ (World.rowIs.lt j.row) (fun e => oh_not j.ids j.row e.symm))
theorem Us.resI (j : Us B W gt gh n vb vi bs is) (h : Onto W W' vi v') : W'.rowIs gh 33 3 (pc 0 (.slice none 0 0) (.slice none 0 0)) :=
  World.rowIs.of_block j.res (h.grown.block _ (World.rowIs.lt j.res) (fun e => oh_not j.ids j.res e.symm))
/-- A bit more: the append, then the store of its list. -/
theorem Us.bit (j : Us B W gt gh n vb vi bs is) (o : OB W' v' bs') (h : Onto W W' vb v') : Us B (W'.setCell ⟨gt, 1, none⟩ v') gt gh n v' vi bs' is := by
  have hr := j.rowB h
  have hs := j.resB h
  refine ⟨⟨(j.bel.trans (h.below j.bel.size j.bfar)).setCell j.tfar _, o.of_block (fun g hg => Below.heap_setCell _ _ _ _ (fun e => ob_not o hr (hg.trans (congrArg some e)))), h.far j.bel.size j.bfar, (j.ids.of_block fun g hg => h.grown.block g (j.ids.lt g hg) (fun e => j.bi g e.symm hg)).of_block (fun g hg => Below.heap_setCell _ _ _ _ (fun e => oh_not j.ids j.row (hg.trans (congrArg some e)))), j.ifar⟩, j.tfar, j.hfar, j.ne, (World.rowIs.set hr 1 v').congr (fun i hi => ?_), World.rowIs.of_block hs (Below.heap_setCell _ _ _ _ (Ne.symm j.ne))⟩
  have : i = 0 ∨ i = 1 ∨ i = 2 := by omega
  rcases this with rfl | rfl | rfl <;> simp [pc]
/-- An id more. -/
theorem Us.idm (j : Us B W gt gh n vb vi bs is) (o : OH 38 W' v' is') (h : Onto W W' vi v') : Us B (W'.setCell ⟨gt, 2, none⟩ v') gt gh n vb v' bs is' := by
  have hr := j.rowI h
  have hs := j.resI h
  refine ⟨⟨(j.bel.trans (h.below j.bel.size j.ifar)).setCell j.tfar _, (j.bits.of_block fun g hg => h.grown.block g (j.bits.lt g hg) (fun e => j.bi g hg e.symm)).of_block (fun g hg => Below.heap_setCell _ _ _ _ (fun e => ob_not j.bits j.row (hg.trans (congrArg some e)))), j.bfar, o.of_block (fun g hg => Below.heap_setCell _ _ _ _ (fun e => oh_not o hr (hg.trans (congrArg some e)))), h.far j.bel.size j.ifar⟩, j.tfar, j.hfar, j.ne, (World.rowIs.set hr 2 v').congr (fun i hi => ?_), World.rowIs.of_block hs (Below.heap_setCell _ _ _ _ (Ne.symm j.ne))⟩
  have : i = 0 ∨ i = 1 ∨ i = 2 := by omega
  rcases this with rfl | rfl | rfl <;> simp [pc]
/-- The whole of it told anew (the answer of a call), by three stores. -/
theorem Us.anew {vb2 vi2 : Value} {bs2 : List Bool} {is2 : List (List UInt8)} (j : Us B W gt gh n vb vi bs is) (k : Ps B W vb2 vi2 bs2 is2) : Us B (((W.setCell ⟨gt, 0, none⟩ (.int .i64 (n : Int))).setCell ⟨gt, 1, none⟩ vb2).setCell ⟨gt, 2, none⟩ vi2) gt gh n vb2 vi2 bs2 is2 := by
  have hb : ∀ g, g ≠ gt → (((W.setCell ⟨gt, 0, none⟩ (.int .i64 (n : Int))).setCell ⟨gt, 1, none⟩ vb2).setCell ⟨gt, 2, none⟩ vi2).heap[g]? = W.heap[g]? := fun g h => by
    rw [Below.heap_setCell _ _ _ _ h, Below.heap_setCell _ _ _ _ h, Below.heap_setCell _ _ _ _ h]
  refine ⟨⟨((j.bel.setCell j.tfar _).setCell j.tfar _).setCell j.tfar _, k.bits.of_block (fun g hg => hb g (fun e => ob_not k.bits j.row (hg.trans (congrArg some e)))), k.bfar, k.ids.of_block (fun g hg => hb g (fun e => oh_not k.ids j.row (hg.trans (congrArg some e)))), k.ifar⟩, j.tfar, j.hfar, j.ne, (World.rowIs.set (World.rowIs.set (World.rowIs.set j.row 0 _) 1 _) 2 _).congr (fun i hi => ?_), World.rowIs.of_block j.res (hb gh (Ne.symm j.ne))⟩
  have : i = 0 ∨ i = 1 ∨ i = 2 := by omega
  rcases this with rfl | rfl | rfl <;> simp [pc]
end
end Go.Proofs.YthlaibkdcebekaaDoor
