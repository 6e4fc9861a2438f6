/- The law's given: a transaction as the document has it: its contract. When two points, inputs, outputs are the same; slices.Equal of lists of such: its contracts. -/
import Derived.Test.YtofddbjnncgmlabGreatDoorX10
namespace Go.Proofs.YtofddbjnncgmlabGreatDoor
open Go.RowKit
open Go.Deep
set_option linter.unusedVariables false
theorem id32' : ∀ (l : List UInt8), l.length = 32 → ∃ b0 b1 b2 b3 b4 b5 b6 b7 b8 b9 b10 b11 b12 b13 b14 b15 b16 b17 b18 b19 b20 b21 b22 b23 b24 b25 b26 b27 b28 b29 b30 b31, l = [b0, b1, b2, b3, b4, b5, b6, b7, b8, b9, b10, b11, b12, b13, b14, b15, b16, b17, b18, b19, b20, b21, b22, b23, b24, b25, b26, b27, b28, b29, b30, b31]
  | [b0, b1, b2, b3, b4, b5, b6, b7, b8, b9, b10, b11, b12, b13, b14, b15, b16, b17, b18, b19, b20, b21, b22, b23, b24, b25, b26, b27, b28, b29, b30, b31], _ => ⟨b0, b1, b2, b3, b4, b5, b6, b7, b8, b9, b10, b11, b12, b13, b14, b15, b16, b17, b18, b19, b20, b21, b22, b23, b24, b25, b26, b27, b28, b29, b30, b31, rfl⟩
theorem ATr : Arr 43 4 (zT.cells none 0 none 0) := ⟨.inr ⟨_, Tryz.underlying43⟩, by kernel_rfl, fun w => by kernel_rfl, fun w => by kernel_rfl, rfl⟩
/-- The document's transaction: its lists can be read. -/
structure LR (w : World) (m : Tm) (ai : Option Addr) (ci : Nat) (ao : Option Addr) (co : Nat) : Prop where
  i : LX KAr w (.slice ai m.ins.length ci) m.ins
  o : LX KOr w (.slice ao m.outs.length co) m.outs
theorem LR.below {w W : World} {m : Tm} {ai : Option Addr} {ci : Nat} {ao : Option Addr} {co : Nat} (h : LR w m ai ci ao co) (b : Below w.heap.size w W) : LR W m ai ci ao co := ⟨h.i.below b, h.o.below b⟩
theorem bld_In (x : Ti) (W : World) : (Instr.build 98 #[(0, .agg (hc x.hash)), (1, .int .u32 (x.idx.toNat : Int)), (2, .string x.key), (3, .int .u32 (x.seq.toNat : Int))]).run Tryz.prog W = .ok (.agg x.cells.toArray) W := by
  obtain ⟨h, i, k, s, hh⟩ := x
  obtain ⟨_, _, _, _, _, _, _, _, _, _, _, _, _, _, _, _, _, _, _, _, _, _, _, _, _, _, _, _, _, _, _, _, rfl⟩ := id32' h hh
  kernel_rfl
theorem bld_Tx (v t : UInt32) (W : World) : (Instr.build 43 #[(0, .int .u32 (v.toNat : Int)), (3, .int .u32 (t.toNat : Int))]).run Tryz.prog W = .ok (.agg ((⟨v, [], [], t⟩ : Tm).cells none 0 none 0)) W := by kernel_rfl
section
variable {w : World} {ops : Array Oper} {rest : List Oper} {o : Oper} {a : Act} {Q : Exit → Act → World → Prop}
theorem wpList_bldX {t : TypeId} (hgd : o.guard = none) (x : Array (Nat × Operand)) (ho : o.op = .build t x) (y : Array (Nat × Value)) (c : Array Value) (hx : x.map (fun p => (p.1, a.eval p.2)) = y) (hr : ∀ W, (Instr.build t y).run Tryz.prog W = .ok (.agg c) W)
    (h : wpList Tryz.prog ops Q rest (a.put o.dst (.agg c)) w) : wpList Tryz.prog ops Q (o :: rest) a w := by
  refine wpList_plain hgd fun K hK => ?_
  unfold Oper.wp execOp
  simp only [ho, hx, hr, Sem.run_bind, Result.andThen_ok, Sem.run_pure]
  exact hK _ _ h
end
/-- While given makes its answer. -/
structure Gv (w W : World) (C : Array Value) (p : Tm) (ai : Option Addr) (ci : Nat) (ao : Option Addr) (co : Nat) : Prop where
  bel : Below w.heap.size w W
  r0 : W.heap[w.heap.size]? = some (.cells C 90 (0, 0))
  r1 : W.heap[w.heap.size + 1]? = some (.cells (zT.cells none 0 none 0) 43 (0, 0))
  r2 : W.heap[w.heap.size + 1 + 1]? = some (.cells (p.cells ai ci ao co) 43 (0, 0))
  xi : OX KAr W (.slice ai p.ins.length ci) p.ins
  fi : ∀ g, (Value.slice ai p.ins.length ci).ownBlock = some g → w.heap.size + 1 + 1 < g
  xo : OX KOr W (.slice ao p.outs.length co) p.outs
  fo : ∀ g, (Value.slice ao p.outs.length co).ownBlock = some g → w.heap.size + 1 + 1 < g
section
variable {w W W' : World} {C : Array Value} {p : Tm} {ai : Option Addr} {ci : Nat} {ao : Option Addr} {co : Nat}
theorem Gv.next (h : Gv w W C p ai ci ao co) (k : Below W.heap.size W W') : Gv w W' C p ai ci ao co := ⟨below_next h.bel k, (k.block _ (lt_heap h.r0)).trans h.r0, (k.block _ (lt_heap h.r1)).trans h.r1, (k.block _ (lt_heap h.r2)).trans h.r2, h.xi.below k, h.fi, h.xo.below k, h.fo⟩
/-- What an append leaves that stands behind what was there. -/
theorem Gv.onto {v v' : Value} (h : Gv w W C p ai ci ao co) (o : Obj) (fv : ∀ g, v.ownBlock = some g → w.heap.size + 1 + 1 < g) (on : Onto (W.alloc o) W' v v') : Below w.heap.size w W' ∧ (∀ k, k ≤ w.heap.size + 1 + 1 → W'.heap[k]? = W.heap[k]?) ∧ ∀ g, v'.ownBlock = some g → w.heap.size + 1 + 1 < g := by
  have hr := lt_heap h.r2
  have hsz : (W.alloc o).heap.size = W.heap.size + 1 := by simp
  have hk : ∀ k, k ≤ w.heap.size + 1 + 1 → W'.heap[k]? = W.heap[k]? := fun k hk => (on.grown.block k (by omega) (fun e => by have := fv k e.symm; omega)).trans (Below.heap_alloc W o k (by omega))
  have g := on.grown
  have ba : Below W.heap.size W (W.alloc o) := (Below.refl _ _).alloc (Nat.le_refl _) _
  refine ⟨⟨(g.os.trans ba.os).trans h.bel.os, (g.tape.trans ba.tape).trans h.bel.tape, (g.output.trans ba.output).trans h.bel.output, ?_, fun k k1 => (hk k (by omega)).trans (h.bel.block k k1)⟩, hk, fun b hb => ?_⟩
  · have := h.bel.size
    have := g.size
    omega
  · rcases on.lies with q | ⟨c, q, hc⟩
    · exact fv b (by rw [← q]; exact hb)
    · rw [q] at hb
      cases hb
      omega
theorem Gv.appI {ai' : Option Addr} {ci' : Nat} {x : Ti} (h : Gv w W C p ai ci ao co) (o : Obj) (q : OX KAr W' (.slice ai' (p.ins ++ [x]).length ci') (p.ins ++ [x])) (on : Onto (W.alloc o) W' (.slice ai p.ins.length ci) (.slice ai' (p.ins ++ [x]).length ci')) (ne : ∀ g, (Value.slice ao p.outs.length co).ownBlock = some g → W'.heap[g]? = W.heap[g]?) : Gv w (W'.setCell ⟨w.heap.size + 1 + 1, 1, none⟩ (.slice ai' (p.ins ++ [x]).length ci')) C { p with ins := p.ins ++ [x] } ai' ci' ao co := by
  obtain ⟨b1, hk, f1⟩ := h.onto o h.fi on
  have hs : ∀ k, k ≠ w.heap.size + 1 + 1 → (W'.setCell ⟨w.heap.size + 1 + 1, 1, none⟩ (.slice ai' (p.ins ++ [x]).length ci')).heap[k]? = W'.heap[k]? := fun k hk => blk_setCell_other W' ⟨w.heap.size + 1 + 1, 1, none⟩ _ k hk
  refine ⟨⟨b1.os, b1.tape, b1.output, by have := b1.size; simpa using this, fun k k1 => (hs k (by omega)).trans (b1.block k k1)⟩, (hs _ (by omega)).trans ((hk _ (by omega)).trans h.r0), (hs _ (by omega)).trans ((hk _ (by omega)).trans h.r1), ?_, q.of_block fun g hg => hs g (by have := f1 g hg; omega), f1, (h.xo.of_block fun g hg => ne g hg).of_block fun g hg => hs g (by have := h.fo g hg; omega), h.fo⟩
  rw [heap_setCell_same W' _ 1 _ _ _ ((hk _ (Nat.le_refl _)).trans h.r2)]
  rfl
theorem Gv.appO {ao' : Option Addr} {co' : Nat} {x : Tu} (h : Gv w W C p ai ci ao co) (o : Obj) (q : OX KOr W' (.slice ao' (p.outs ++ [x]).length co') (p.outs ++ [x])) (on : Onto (W.alloc o) W' (.slice ao p.outs.length co) (.slice ao' (p.outs ++ [x]).length co')) (ne : ∀ g, (Value.slice ai p.ins.length ci).ownBlock = some g → W'.heap[g]? = W.heap[g]?) : Gv w (W'.setCell ⟨w.heap.size + 1 + 1, 2, none⟩ (.slice ao' (p.outs ++ [x]).length co')) C { p with outs := p.outs ++ [x] } ai ci ao' co' := by
  obtain ⟨b1, hk, f1⟩ := h.onto o h.fo on
  have hs : ∀ k, k ≠ w.heap.size + 1 + 1 → (W'.setCell ⟨w.heap.size + 1 + 1, 2, none⟩ (.slice ao' (p.outs ++ [x]).length co')).heap[k]? = W'.heap[k]? := fun k hk => blk_setCell_other W' ⟨w.heap.size + 1 + 1, 2, none⟩ _ k hk
  refine ⟨⟨b1.os, b1.tape, b1.output, by have := b1.size; simpa using this, fun k k1 => (hs k (by omega)).trans (b1.block k k1)⟩, (hs _ (by omega)).trans ((hk _ (by omega)).trans h.r0), (hs _ (by omega)).trans ((hk _ (by omega)).trans h.r1), ?_, (h.xi.of_block fun g hg => ne g hg).of_block fun g hg => hs g (by have := h.fi g hg; omega), h.fi, q.of_block fun g hg => hs g (by have := f1 g hg; omega), f1⟩
  rw [heap_setCell_same W' _ 2 _ _ _ ((hk _ (Nat.le_refl _)).trans h.r2)]
  rfl
/-- Inputs and outputs lie in blocks of their own: their types are not the same. -/
theorem OX.type {α : Type} {E : Ek α} {v : Value} {L : List α} (h : OX E W v L) : ∀ g, v.ownBlock = some g → ∃ c, W.heap[g]? = some (.cells c E.e (0, 0)) := by
  intro g hg
  rcases h.2 with ⟨rfl, h0⟩ | ⟨g', cap, cur, rfl, h4, hb, h5⟩
  · cases hg
  · cases hg
    exact ⟨cur, hb⟩
theorem Gv.other {ai' : Option Addr} {ci' : Nat} {x : Ti} (h : Gv w W C p ai ci ao co) (o : Obj) (on : Onto (W.alloc o) W' (.slice ai p.ins.length ci) (.slice ai' (p.ins ++ [x]).length ci')) : ∀ g, (Value.slice ao p.outs.length co).ownBlock = some g → W'.heap[g]? = W.heap[g]? := fun g hg => by
  have hlt := h.xo.lt g hg
  have hsz : (W.alloc o).heap.size = W.heap.size + 1 := by simp
  refine (on.grown.block g (by omega) (fun e => ?_)).trans (Below.heap_alloc W o g hlt)
  obtain ⟨c1, q1⟩ := h.xo.type g hg
  obtain ⟨c2, q2⟩ := h.xi.type g e.symm
  rw [q1] at q2
  injection q2 with q2
  injection q2 with _ q3
  exact absurd q3 (by decide)
theorem Gv.otherO {ao' : Option Addr} {co' : Nat} {x : Tu} (h : Gv w W C p ai ci ao co) (o : Obj) (on : Onto (W.alloc o) W' (.slice ao p.outs.length co) (.slice ao' (p.outs ++ [x]).length co')) : ∀ g, (Value.slice ai p.ins.length ci).ownBlock = some g → W'.heap[g]? = W.heap[g]? := fun g hg => by
  have hlt := h.xi.lt g hg
  have hsz : (W.alloc o).heap.size = W.heap.size + 1 := by simp
  refine (on.grown.block g (by omega) (fun e => ?_)).trans (Below.heap_alloc W o g hlt)
  obtain ⟨c1, q1⟩ := h.xi.type g hg
  obtain ⟨c2, q2⟩ := h.xo.type g e.symm
  rw [q1] at q2
  injection q2 with q2
  injection q2 with _ q3
  exact absurd q3 (by decide)
end
end Go.Proofs.YtofddbjnncgmlabGreatDoor
namespace Go.Proofs.YtofddbjnncgmlabGreatDoor
open Go.RowKit
open Go.Deep
set_option linter.unusedVariables false
theorem qLoadX {α : Type} (E : Ek α) {kd : TypeDesc} (hu : Tryz.prog.underlying E.e = some kd) (hkd : kd.isRow = true) {C : World → Prop} {a : Act} {o : Oper} {K : Act → Prop} (x : Operand) (ho : o.op = .load E.e x) (g off : Nat) (hx : a.eval x = .pointer (some ⟨g, off, none⟩)) (y : α) (hr : ∀ W, C W → W.rangeAt g off (E.enc y))
    (hk : K (a.put o.dst (.agg (E.enc y).toArray))) : o.quiet Tryz.prog a C K := by
  refine ⟨.agg (E.enc y).toArray, fun W hC => ?_, hk⟩
  unfold Oper.quietAt execOp
  simp only [ho, hx, Sem.run_bind, E.load y hu hkd (hr W hC), Result.andThen_ok, Sem.run_pure]
  exact ⟨rfl, rfl⟩
theorem quiet_neqX {C : World → Prop} {a : Act} {o : Oper} {K : Act → Prop} (t : TypeId) (x y : Operand) (t2 : TypeId) (ho : o.op = .binOp .neq t x y t2) (c d : Array Value) (hx : a.eval x = .agg c) (hy : a.eval y = .agg d) (hg : Tryz.prog.eqGuardType Tryz.prog.depth t = false)
    (v : Bool) (hr : ∀ W, (Op.equalIn 10000 t (.agg c) (.agg d)).run Tryz.prog W = .ok v W) (hk : K (a.put o.dst (.bool !v))) : o.quiet Tryz.prog a C K := by
  refine ⟨.bool !v, fun W _ => ?_, hk⟩
  unfold Oper.quietAt execOp
  simp only [ho, hx, hy, Sem.run_bind, run_eqGuard_agg (P := Tryz.prog) W .neq t x y c d hg, run_neq_struct, hr W, Result.andThen_ok, Sem.run_pure]
  exact ⟨rfl, rfl⟩
theorem LX.cellX {α : Type} {E : Ek α} {w : World} {g off n cap : Nat} {L : List α} (h : LX E w (.slice (some ⟨g, off, none⟩) n cap) L) (i : Nat) (hi : i < L.length) {v : Value} (he : E.enc L[i] = [v]) (hk : E.k = 1) : w.cell? ⟨g, off + i, none⟩ = some v := by
  have := h.range i hi
  rw [he, hk, Nat.mul_one] at this
  exact this 0 v rfl
/-- A point. -/
structure Tp where
  hash : List UInt8
  idx : UInt32
  hh : hash.length = 32
  deriving DecidableEq
def Tp.cells (x : Tp) : List Value := cellsL x.hash ++ [.int .u32 (x.idx.toNat : Int)]
theorem Tp.len (x : Tp) : x.cells.length = 33 := by simp [Tp.cells, cellsL_len, x.hh]
theorem Tp.one (x : Tp) : ∀ v ∈ x.cells, v.oneCell' = true := fun v hv => by
  simp only [Tp.cells, List.mem_cons, List.mem_append, List.not_mem_nil, or_false] at hv
  rcases hv with h | rfl
  · exact cellsL_one _ v h
  · rfl
def Ti.pt (x : Ti) : Tp := ⟨x.hash, x.idx, x.hh⟩
theorem Tp.hash_at (x : Tp) : x.cells.toArray.extract 0 (0 + 32) = (cellsL x.hash).toArray := by
  have h : (cellsL x.hash).length = 32 := by rw [cellsL_len, x.hh]
  simp only [Tp.cells, List.extract_toArray, List.extract]
  simp [h]
theorem Tp.idx_at (x : Tp) : x.cells.toArray[32]? = some (.int .u32 (x.idx.toNat : Int)) := by
  have h : (cellsL x.hash).length = 32 := by rw [cellsL_len, x.hh]
  rw [List.getElem?_toArray, Tp.cells, List.getElem?_append_right (by omega), h]; rfl
theorem Ti.hash_at (x : Ti) : x.cells.toArray.extract 0 (0 + 32) = (cellsL x.hash).toArray := by
  have h : (cellsL x.hash).length = 32 := by rw [cellsL_len, x.hh]
  simp only [Ti.cells, List.extract_toArray, List.extract]
  simp [h]
theorem Ti.pt_at (x : Ti) : x.cells.toArray.extract 0 (0 + 33) = x.pt.cells.toArray := by
  have h : (cellsL x.hash).length = 32 := by rw [cellsL_len, x.hh]
  simp only [Ti.cells, Tp.cells, Ti.pt, List.extract_toArray, List.extract]
  simp
  rw [show 33 = (cellsL x.hash).length + 1 by omega, List.take_length_add_append]
  rfl
/-- A type's fields are those of a point. -/
structure FP (t : TypeId) : Prop where
  ex : ∃ f0 f1, Tryz.prog.underlying t = some (.struct #[f0, f1]) ∧ (f0.name ≠ "_" ∧ f1.name ≠ "_") ∧ (f0.offset = 0 ∧ f1.offset = 32) ∧
    Tryz.prog.underlying f0.type = some (.array 32 5) ∧ Tryz.prog.underlying f1.type = some (.int .u32) ∧ (∀ W, (sizeOf f0.type).run Tryz.prog W = .ok 32 W)
  st : Tryz.prog.stoodInHeld t = false
theorem fp_api : FP 76 := ⟨⟨_, _, Tryz.underlying76, ⟨by decide, by decide⟩, ⟨rfl, rfl⟩, Tryz.underlying25, Tryz.underlying23, fun W => by kernel_rfl⟩, by kernel_rfl⟩
theorem Tp.same (x y : Tp) : ((x.hash == y.hash) && (((x.idx.toNat : Int) == (y.idx.toNat : Int)) && true)) = decide (x = y) := by
  rw [Bool.eq_iff_iff]
  simp only [Bool.and_eq_true, beq_iff_eq, decide_eq_true_eq, and_true]
  constructor
  · rintro ⟨h0, h1⟩
    obtain ⟨a, b, _⟩ := x
    obtain ⟨a', b', _⟩ := y
    simp only at h0 h1
    subst h0
    have e0 : b = b' := UInt32.toNat_inj.1 (by omega)
    subst e0
    rfl
  · rintro rfl
    exact ⟨rfl, rfl⟩
theorem eqPt {t : TypeId} (F : FP t) (d : Nat) (x y : Tp) (W : World) : (Op.equalIn (d + 3) t (.agg x.cells.toArray) (.agg y.cells.toArray)).run Tryz.prog W = .ok (decide (x = y)) W := by
  obtain ⟨⟨f0, f1, hu, ⟨n0, n1⟩, ⟨o0, o1⟩, u0, u1, s0⟩, st⟩ := F
  have hf : Tryz.prog.fieldsOf t = #[f0, f1] := by simp [Program.fieldsOf, hu]
  refine (run_equalIn_struct W (d + 2) t _ _ (by rw [hf]; exact hu) st).trans ?_
  rw [hf]
  have e1 := eqF_cons (W := W) (d := d + 2) (xs := x.cells.toArray) (ys := y.cells.toArray) n1 (part_cell u1 rfl (by rw [o1]; exact x.idx_at)) (part_cell u1 rfl (by rw [o1]; exact y.idx_at)) (run_equalIn_int W (d + 1) f1.type .u32 .u32 _ _ u1) (fs := []) (r2 := true) rfl
  have e0 := eqF_cons (W := W) (d := d + 2) (xs := x.cells.toArray) (ys := y.cells.toArray) n0 (part_row u0 rfl (s0 W) (by rw [o0]; exact x.hash_at)) (part_row u0 rfl (s0 W) (by rw [o0]; exact y.hash_at)) (eqC_bytes x.hash y.hash 32 x.hh y.hh f0.type u0 d W) e1
  rw [Tp.same] at e0
  exact e0
theorem Ti.same (x y : Ti) : (decide (x.pt = y.pt) && ((x.key.toList == y.key.toList) && (((x.seq.toNat : Int) == (y.seq.toNat : Int)) && true))) = decide (x = y) := by
  rw [bytes_same, Bool.eq_iff_iff]
  simp only [Bool.and_eq_true, beq_iff_eq, decide_eq_true_eq, and_true]
  constructor
  · rintro ⟨h0, h1, h2⟩
    obtain ⟨a, b, c, d, _⟩ := x
    obtain ⟨a', b', c', d', _⟩ := y
    simp only [Ti.pt, Tp.mk.injEq] at h0 h1 h2
    obtain ⟨h3, h4⟩ := h0
    subst h1 h3 h4
    have e0 : d = d' := UInt32.toNat_inj.1 (by omega)
    subst e0
    rfl
  · rintro rfl
    exact ⟨rfl, rfl, rfl⟩
/-- .. of an input, the point in one. -/
theorem eqTi (x y : Ti) (W : World) : (Op.equalIn 10000 96 (.agg x.cells.toArray) (.agg y.cells.toArray)).run Tryz.prog W = .ok (decide (x = y)) W := by
  obtain ⟨f0, f1, f2, hu, ⟨n0, n1, n2⟩, ⟨o0, o1, o2⟩, ⟨u0, u0t⟩, u1, u2, s0⟩ : ∃ f0 f1 f2, Tryz.prog.underlying 96 = some (.struct #[f0, f1, f2]) ∧ (f0.name ≠ "_" ∧ f1.name ≠ "_" ∧ f2.name ≠ "_") ∧ (f0.offset = 0 ∧ f1.offset = 33 ∧ f2.offset = 34) ∧ ((∃ fs, Tryz.prog.underlying f0.type = some (.struct fs)) ∧ f0.type = 76) ∧ Tryz.prog.underlying f1.type = some .string ∧ Tryz.prog.underlying f2.type = some (.int .u32) ∧ (∀ W, (sizeOf f0.type).run Tryz.prog W = .ok 33 W) :=
    ⟨_, _, _, Tryz.underlying96, ⟨by decide, by decide, by decide⟩, ⟨rfl, rfl, rfl⟩, ⟨⟨_, Tryz.underlying76⟩, rfl⟩, Tryz.underlying9, Tryz.underlying23, fun W => by kernel_rfl⟩
  obtain ⟨fs, u0⟩ := u0
  have st : Tryz.prog.stoodInHeld 96 = false := by kernel_rfl
  have hf : Tryz.prog.fieldsOf 96 = #[f0, f1, f2] := by simp [Program.fieldsOf, hu]
  refine (run_equalIn_struct W 9999 96 _ _ (by rw [hf]; exact hu) st).trans ?_
  rw [hf]
  have e2 := eqF_cons (W := W) (d := 9999) (xs := x.cells.toArray) (ys := y.cells.toArray) n2 (part_cell u2 rfl (by rw [o2]; exact x.at34)) (part_cell u2 rfl (by rw [o2]; exact y.at34)) (run_equalIn_int W 9998 f2.type .u32 .u32 _ _ u2) (fs := []) (r2 := true) rfl
  have e1 := eqF_cons (W := W) (d := 9999) (xs := x.cells.toArray) (ys := y.cells.toArray) n1 (part_cell u1 rfl (by rw [o1]; exact x.at33)) (part_cell u1 rfl (by rw [o1]; exact y.at33)) (run_equalIn_string W 9998 f1.type x.key y.key u1) e2
  have hp : (Op.equalIn 9999 f0.type (.agg x.pt.cells.toArray) (.agg y.pt.cells.toArray)).run Tryz.prog W = .ok (decide (x.pt = y.pt)) W := by rw [u0t]; exact eqPt fp_api 9996 x.pt y.pt W
  have e0 := eqF_cons (W := W) (d := 9999) (xs := x.cells.toArray) (ys := y.cells.toArray) n0 (part_row (c := x.pt.cells.toArray) u0 rfl (s0 W) (by rw [o0]; exact x.pt_at)) (part_row (c := y.pt.cells.toArray) u0 rfl (s0 W) (by rw [o0]; exact y.pt_at)) hp e1
  rw [Ti.same] at e0
  exact e0
theorem Ti.sameR (x y : Ti) : ((x.hash == y.hash) && (((x.idx.toNat : Int) == (y.idx.toNat : Int)) && ((x.key.toList == y.key.toList) && (((x.seq.toNat : Int) == (y.seq.toNat : Int)) && true)))) = decide (x = y) := by
  have h := Tp.same x.pt y.pt
  have h2 := Ti.same x y
  rw [← h] at h2
  rw [← h2]
  simp only [Ti.pt, Bool.and_true, Bool.and_assoc]
/-- .. of the document's input. -/
theorem eqTr (x y : Ti) (W : World) : (Op.equalIn 10000 98 (.agg x.cells.toArray) (.agg y.cells.toArray)).run Tryz.prog W = .ok (decide (x = y)) W := by
  obtain ⟨f0, f1, f2, f3, hu, ⟨n0, n1, n2, n3⟩, ⟨o0, o1, o2, o3⟩, u0, u1, u2, u3, s0⟩ : ∃ f0 f1 f2 f3, Tryz.prog.underlying 98 = some (.struct #[f0, f1, f2, f3]) ∧ (f0.name ≠ "_" ∧ f1.name ≠ "_" ∧ f2.name ≠ "_" ∧ f3.name ≠ "_") ∧ (f0.offset = 0 ∧ f1.offset = 32 ∧ f2.offset = 33 ∧ f3.offset = 34) ∧ Tryz.prog.underlying f0.type = some (.array 32 5) ∧ Tryz.prog.underlying f1.type = some (.int .u32) ∧ Tryz.prog.underlying f2.type = some .string ∧ Tryz.prog.underlying f3.type = some (.int .u32) ∧ (∀ W, (sizeOf f0.type).run Tryz.prog W = .ok 32 W) :=
    ⟨_, _, _, _, Tryz.underlying98, ⟨by decide, by decide, by decide, by decide⟩, ⟨rfl, rfl, rfl, rfl⟩, Tryz.underlying24, Tryz.underlying23, Tryz.underlying9, Tryz.underlying23, fun W => by kernel_rfl⟩
  have st : Tryz.prog.stoodInHeld 98 = false := by kernel_rfl
  have hf : Tryz.prog.fieldsOf 98 = #[f0, f1, f2, f3] := by simp [Program.fieldsOf, hu]
  refine (run_equalIn_struct W 9999 98 _ _ (by rw [hf]; exact hu) st).trans ?_
  rw [hf]
  have e3 := eqF_cons (W := W) (d := 9999) (xs := x.cells.toArray) (ys := y.cells.toArray) n3 (part_cell u3 rfl (by rw [o3]; exact x.at34)) (part_cell u3 rfl (by rw [o3]; exact y.at34)) (run_equalIn_int W 9998 f3.type .u32 .u32 _ _ u3) (fs := []) (r2 := true) rfl
  have e2 := eqF_cons (W := W) (d := 9999) (xs := x.cells.toArray) (ys := y.cells.toArray) n2 (part_cell u2 rfl (by rw [o2]; exact x.at33)) (part_cell u2 rfl (by rw [o2]; exact y.at33)) (run_equalIn_string W 9998 f2.type x.key y.key u2) e3
  have e1 := eqF_cons (W := W) (d := 9999) (xs := x.cells.toArray) (ys := y.cells.toArray) n1 (part_cell u1 rfl (by rw [o1]; exact x.at32)) (part_cell u1 rfl (by rw [o1]; exact y.at32)) (run_equalIn_int W 9998 f1.type .u32 .u32 _ _ u1) e2
  have e0 := eqF_cons (W := W) (d := 9999) (xs := x.cells.toArray) (ys := y.cells.toArray) n0 (part_row u0 rfl (s0 W) (by rw [o0]; exact x.hash_at)) (part_row u0 rfl (s0 W) (by rw [o0]; exact y.hash_at)) (eqC_bytes x.hash y.hash 32 x.hh y.hh f0.type u0 9997 W) e1
  rw [Ti.sameR] at e0
  exact e0
/-- .. of an output. -/
structure FO (t : TypeId) : Prop where
  ex : ∃ f0 f1, Tryz.prog.underlying t = some (.struct #[f0, f1]) ∧ (f0.name ≠ "_" ∧ f1.name ≠ "_") ∧ (f0.offset = 0 ∧ f1.offset = 1) ∧
    Tryz.prog.underlying f0.type = some (.int .u64) ∧ Tryz.prog.underlying f1.type = some .string
  st : Tryz.prog.stoodInHeld t = false
theorem fo_api : FO 70 := ⟨⟨_, _, Tryz.underlying70, ⟨by decide, by decide⟩, ⟨rfl, rfl⟩, Tryz.underlying66, Tryz.underlying9⟩, by kernel_rfl⟩
theorem fo_ref : FO 99 := ⟨⟨_, _, Tryz.underlying99, ⟨by decide, by decide⟩, ⟨rfl, rfl⟩, Tryz.underlying66, Tryz.underlying9⟩, by kernel_rfl⟩
theorem Tu.same (x y : Tu) : (((x.val.toNat : Int) == (y.val.toNat : Int)) && ((x.lock.toList == y.lock.toList) && true)) = decide (x = y) := by
  rw [bytes_same, Bool.eq_iff_iff]
  simp only [Bool.and_eq_true, beq_iff_eq, decide_eq_true_eq, and_true]
  constructor
  · rintro ⟨h0, h1⟩
    obtain ⟨a, b⟩ := x
    obtain ⟨a', b'⟩ := y
    simp only at h0 h1
    subst h1
    have e0 : a = a' := UInt64.toNat_inj.1 (by omega)
    subst e0
    rfl
  · rintro rfl
    exact ⟨rfl, rfl⟩
theorem eqTu {t : TypeId} (F : FO t) (x y : Tu) (W : World) : (Op.equalIn 10000 t (.agg x.cells.toArray) (.agg y.cells.toArray)).run Tryz.prog W = .ok (decide (x = y)) W := by
  obtain ⟨⟨f0, f1, hu, ⟨n0, n1⟩, ⟨o0, o1⟩, u0, u1⟩, st⟩ := F
  have hf : Tryz.prog.fieldsOf t = #[f0, f1] := by simp [Program.fieldsOf, hu]
  refine (run_equalIn_struct W 9999 t _ _ (by rw [hf]; exact hu) st).trans ?_
  rw [hf]
  have e1 := eqF_cons (W := W) (d := 9999) (xs := x.cells.toArray) (ys := y.cells.toArray) n1 (part_cell u1 rfl (by rw [o1]; rfl)) (part_cell u1 rfl (by rw [o1]; rfl)) (run_equalIn_string W 9998 f1.type x.lock y.lock u1) (fs := []) (r2 := true) rfl
  have e0 := eqF_cons (W := W) (d := 9999) (xs := x.cells.toArray) (ys := y.cells.toArray) n0 (part_cell u0 rfl (by rw [o0]; rfl)) (part_cell u0 rfl (by rw [o0]; rfl)) (run_equalIn_int W 9998 f0.type .u64 .u64 _ _ u0) e1
  rw [Tu.same] at e0
  exact e0
section
set_option maxRecDepth 10000
set_option maxHeartbeats 4000000
set_option linter.unusedSimpArgs false
end
section
set_option maxRecDepth 10000
set_option maxHeartbeats 4000000
set_option linter.unusedSimpArgs false
end
end Go.Proofs.YtofddbjnncgmlabGreatDoor
