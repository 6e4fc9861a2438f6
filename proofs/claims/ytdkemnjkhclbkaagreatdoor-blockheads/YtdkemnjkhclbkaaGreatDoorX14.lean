/- The law's given: a transaction as the document has it: its contract. -/
import Derived.Test.YtdkemnjkhclbkaaGreatDoorX13
namespace Go.Proofs.YtdkemnjkhclbkaaGreatDoor
open Go.RowKit
open Go.Deep
set_option linter.unusedVariables false
theorem id32' : ∀ (l : List UInt8), l.length = 32 → ∃ b0 b1 b2 b3 b4 b5 b6 b7 b8 b9 b10 b11 b12 b13 b14 b15 b16 b17 b18 b19 b20 b21 b22 b23 b24 b25 b26 b27 b28 b29 b30 b31, l = [b0, b1, b2, b3, b4, b5, b6, b7, b8, b9, b10, b11, b12, b13, b14, b15, b16, b17, b18, b19, b20, b21, b22, b23, b24, b25, b26, b27, b28, b29, b30, b31]
  | [b0, b1, b2, b3, b4, b5, b6, b7, b8, b9, b10, b11, b12, b13, b14, b15, b16, b17, b18, b19, b20, b21, b22, b23, b24, b25, b26, b27, b28, b29, b30, b31], _ => ⟨b0, b1, b2, b3, b4, b5, b6, b7, b8, b9, b10, b11, b12, b13, b14, b15, b16, b17, b18, b19, b20, b21, b22, b23, b24, b25, b26, b27, b28, b29, b30, b31, rfl⟩
theorem ATr : Arr 73 4 (zT.cells none 0 none 0) := ⟨.inr ⟨_, Tryz.underlying73⟩, by kernel_rfl, fun w => by kernel_rfl, fun w => by kernel_rfl, rfl⟩
/-- The document's transaction: its lists can be read. -/
structure LR (w : World) (m : Tm) (ai : Option Addr) (ci : Nat) (ao : Option Addr) (co : Nat) : Prop where
  i : LX KAr w (.slice ai m.ins.length ci) m.ins
  o : LX KOr w (.slice ao m.outs.length co) m.outs
theorem LR.below {w W : World} {m : Tm} {ai : Option Addr} {ci : Nat} {ao : Option Addr} {co : Nat} (h : LR w m ai ci ao co) (b : Below w.heap.size w W) : LR W m ai ci ao co := ⟨h.i.below b, h.o.below b⟩
theorem bld_In (x : Ti) (W : World) : (Instr.build 129 #[(0, .agg (hc x.hash)), (1, .int .u32 (x.idx.toNat : Int)), (2, .string x.key), (3, .int .u32 (x.seq.toNat : Int))]).run Tryz.prog W = .ok (.agg x.cells.toArray) W := by
  obtain ⟨h, i, k, s, hh⟩ := x
  obtain ⟨_, _, _, _, _, _, _, _, _, _, _, _, _, _, _, _, _, _, _, _, _, _, _, _, _, _, _, _, _, _, _, _, rfl⟩ := id32' h hh
  kernel_rfl
theorem bld_Tx (v t : UInt32) (W : World) : (Instr.build 73 #[(0, .int .u32 (v.toNat : Int)), (3, .int .u32 (t.toNat : Int))]).run Tryz.prog W = .ok (.agg ((⟨v, [], [], t⟩ : Tm).cells none 0 none 0)) W := by kernel_rfl
section
variable {w : World} {ops : Array Oper} {rest : List Oper} {o : Oper} {a : Act} {Q : Exit → Act → World → Prop}
theorem wpList_bldX {t : TypeId} (hgd : o.guard = none) (x : Array (Nat × Operand)) (ho : o.op = .build t x) (y : Array (Nat × Value)) (c : Array Value) (hx : x.map (fun p => (p.1, a.eval p.2)) = y) (hr : ∀ W, (Instr.build t y).run Tryz.prog W = .ok (.agg c) W)
    (h : wpList Tryz.prog ops Q rest (a.put o.dst (.agg c)) w) : wpList Tryz.prog ops Q (o :: rest) a w := by
  refine wpList_plain hgd fun K hK => ?_
  unfold Oper.wp execOp
  simp only [ho, hx, hr, Sem.run_bind, Result.andThen_ok, Sem.run_pure]
  exact hK _ _ h
end
/-- While given makes its answer. -/
structure Gv (w W : World) (C : Array Value) (p : Tm) (ai : Option Addr) (ci : Nat) (ao : Option Addr) (co : Nat) : Prop where
  bel : Below w.heap.size w W
  r0 : W.heap[w.heap.size]? = some (.cells C 78 (0, 0))
  r1 : W.heap[w.heap.size + 1]? = some (.cells (zT.cells none 0 none 0) 73 (0, 0))
  r2 : W.heap[w.heap.size + 1 + 1]? = some (.cells (p.cells ai ci ao co) 73 (0, 0))
  xi : OX KAr W (.slice ai p.ins.length ci) p.ins
  fi : ∀ g, (Value.slice ai p.ins.length ci).ownBlock = some g → w.heap.size + 1 + 1 < g
  xo : OX KOr W (.slice ao p.outs.length co) p.outs
  fo : ∀ g, (Value.slice ao p.outs.length co).ownBlock = some g → w.heap.size + 1 + 1 < g
section
variable {w W W' : World} {C : Array Value} {p : Tm} {ai : Option Addr} {ci : Nat} {ao : Option Addr} {co : Nat}
theorem Gv.next (h : Gv w W C p ai ci ao co) (k : Below W.heap.size W W') : Gv w W' C p ai ci ao co := ⟨below_next h.bel k, (k.block _ (lt_heap h.r0)).trans h.r0, (k.block _ (lt_heap h.r1)).trans h.r1, (k.block _ (lt_heap h.r2)).trans h.r2, h.xi.below k, h.fi, h.xo.below k, h.fo⟩
/-- What an append leaves that stands behind what was there. -/
theorem Gv.onto {v v' : Value} (h : Gv w W C p ai ci ao co) (o : Obj) (fv : ∀ g, v.ownBlock = some g → w.heap.size + 1 + 1 < g) (on : Onto (W.alloc o) W' v v') : Below w.heap.size w W' ∧ (∀ k, k ≤ w.heap.size + 1 + 1 → W'.heap[k]? = W.heap[k]?) ∧ ∀ g, v'.ownBlock = some g → w.heap.size + 1 + 1 < g := by
  have hr := lt_heap h.r2
  have hsz : (W.alloc o).heap.size = W.heap.size + 1 := by simp
  have hk : ∀ k, k ≤ w.heap.size + 1 + 1 → W'.heap[k]? = W.heap[k]? := fun k hk => (on.grown.block k (by omega) (fun e => by have := fv k e.symm; omega)).trans (Below.heap_alloc W o k (by omega))
  have g := on.grown
  have ba : Below W.heap.size W (W.alloc o) := (Below.refl _ _).alloc (Nat.le_refl _) _
  refine ⟨⟨(g.os.trans ba.os).trans h.bel.os, (g.tape.trans ba.tape).trans h.bel.tape, (g.output.trans ba.output).trans h.bel.output, ?_, fun k k1 => (hk k (by omega)).trans (h.bel.block k k1)⟩, hk, fun b hb => ?_⟩
  · have := h.bel.size
    have := g.size
    omega
  · rcases on.lies with q | ⟨c, q, hc⟩
    · exact fv b (by rw [← q]; exact hb)
    · rw [q] at hb
      cases hb
      omega
theorem Gv.appI {ai' : Option Addr} {ci' : Nat} {x : Ti} (h : Gv w W C p ai ci ao co) (o : Obj) (q : OX KAr W' (.slice ai' (p.ins ++ [x]).length ci') (p.ins ++ [x])) (on : Onto (W.alloc o) W' (.slice ai p.ins.length ci) (.slice ai' (p.ins ++ [x]).length ci')) (ne : ∀ g, (Value.slice ao p.outs.length co).ownBlock = some g → W'.heap[g]? = W.heap[g]?) : Gv w (W'.setCell ⟨w.heap.size + 1 + 1, 1, none⟩ (.slice ai' (p.ins ++ [x]).length ci')) C { p with ins := p.ins ++ [x] } ai' ci' ao co := by
  obtain ⟨b1, hk, f1⟩ := h.onto o h.fi on
  have hs : ∀ k, k ≠ w.heap.size + 1 + 1 → (W'.setCell ⟨w.heap.size + 1 + 1, 1, none⟩ (.slice ai' (p.ins ++ [x]).length ci')).heap[k]? = W'.heap[k]? := fun k hk => blk_setCell_other W' ⟨w.heap.size + 1 + 1, 1, none⟩ _ k hk
  refine ⟨⟨b1.os, b1.tape, b1.output, by have := b1.size; simpa using this, fun k k1 => (hs k (by omega)).trans (b1.block k k1)⟩, (hs _ (by omega)).trans ((hk _ (by omega)).trans h.r0), (hs _ (by omega)).trans ((hk _ (by omega)).trans h.r1), ?_, q.of_block fun g hg => hs g (by have := f1 g hg; omega), f1, (h.xo.of_block fun g hg => ne g hg).of_block fun g hg => hs g (by have := h.fo g hg; omega), h.fo⟩
  rw [heap_setCell_same W' _ 1 _ _ _ ((hk _ (Nat.le_refl _)).trans h.r2)]
  rfl
theorem Gv.appO {ao' : Option Addr} {co' : Nat} {x : Tu} (h : Gv w W C p ai ci ao co) (o : Obj) (q : OX KOr W' (.slice ao' (p.outs ++ [x]).length co') (p.outs ++ [x])) (on : Onto (W.alloc o) W' (.slice ao p.outs.length co) (.slice ao' (p.outs ++ [x]).length co')) (ne : ∀ g, (Value.slice ai p.ins.length ci).ownBlock = some g → W'.heap[g]? = W.heap[g]?) : Gv w (W'.setCell ⟨w.heap.size + 1 + 1, 2, none⟩ (.slice ao' (p.outs ++ [x]).length co')) C { p with outs := p.outs ++ [x] } ai ci ao' co' := by
  obtain ⟨b1, hk, f1⟩ := h.onto o h.fo on
  have hs : ∀ k, k ≠ w.heap.size + 1 + 1 → (W'.setCell ⟨w.heap.size + 1 + 1, 2, none⟩ (.slice ao' (p.outs ++ [x]).length co')).heap[k]? = W'.heap[k]? := fun k hk => blk_setCell_other W' ⟨w.heap.size + 1 + 1, 2, none⟩ _ k hk
  refine ⟨⟨b1.os, b1.tape, b1.output, by have := b1.size; simpa using this, fun k k1 => (hs k (by omega)).trans (b1.block k k1)⟩, (hs _ (by omega)).trans ((hk _ (by omega)).trans h.r0), (hs _ (by omega)).trans ((hk _ (by omega)).trans h.r1), ?_, (h.xi.of_block fun g hg => ne g hg).of_block fun g hg => hs g (by have := h.fi g hg; omega), h.fi, q.of_block fun g hg => hs g (by have := f1 g hg; omega), f1⟩
  rw [heap_setCell_same W' _ 2 _ _ _ ((hk _ (Nat.le_refl _)).trans h.r2)]
  rfl
/-- Inputs and outputs lie in blocks of their own: their types are not the same. -/
theorem OX.type {α : Type} {E : Ek α} {v : Value} {L : List α} (h : OX E W v L) : ∀ g, v.ownBlock = some g → ∃ c, W.heap[g]? = some (.cells c E.e (0, 0)) := by
  intro g hg
  rcases h.2 with ⟨rfl, h0⟩ | ⟨g', cap, cur, rfl, h4, hb, h5⟩
  · cases hg
  · cases hg
    exact ⟨cur, hb⟩
theorem Gv.other {ai' : Option Addr} {ci' : Nat} {x : Ti} (h : Gv w W C p ai ci ao co) (o : Obj) (on : Onto (W.alloc o) W' (.slice ai p.ins.length ci) (.slice ai' (p.ins ++ [x]).length ci')) : ∀ g, (Value.slice ao p.outs.length co).ownBlock = some g → W'.heap[g]? = W.heap[g]? := fun g hg => by
  have hlt := h.xo.lt g hg
  have hsz : (W.alloc o).heap.size = W.heap.size + 1 := by simp
  refine (on.grown.block g (by omega) (fun e => ?_)).trans (Below.heap_alloc W o g hlt)
  obtain ⟨c1, q1⟩ := h.xo.type g hg
  obtain ⟨c2, q2⟩ := h.xi.type g e.symm
  rw [q1] at q2
  injection q2 with q2
  injection q2 with _ q3
  exact absurd q3 (by decide)
theorem Gv.otherO {ao' : Option Addr} {co' : Nat} {x : Tu} (h : Gv w W C p ai ci ao co) (o : Obj) (on : Onto (W.alloc o) W' (.slice ao p.outs.length co) (.slice ao' (p.outs ++ [x]).length co')) : ∀ g, (Value.slice ai p.ins.length ci).ownBlock = some g → W'.heap[g]? = W.heap[g]? := fun g hg => by
  have hlt := h.xi.lt g hg
  have hsz : (W.alloc o).heap.size = W.heap.size + 1 := by simp
  refine (on.grown.block g (by omega) (fun e => ?_)).trans (Below.heap_alloc W o g hlt)
  obtain ⟨c1, q1⟩ := h.xi.type g hg
  obtain ⟨c2, q2⟩ := h.xo.type g e.symm
  rw [q1] at q2
  injection q2 with q2
  injection q2 with _ q3
  exact absurd q3 (by decide)
end
end Go.Proofs.YtdkemnjkhclbkaaGreatDoor
