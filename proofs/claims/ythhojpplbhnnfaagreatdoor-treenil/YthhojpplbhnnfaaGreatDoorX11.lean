/- Transactions in memory; how many bytes they have. The law's given: a transaction as the document has it: its contract. -/
import Derived.Test.YthhojpplbhnnfaaGreatDoorX10
namespace Go.Proofs.YthhojpplbhnnfaaGreatDoor
open Go.RowKit
open Go.Deep
set_option linter.unusedVariables false
def zTi : Ti := ⟨zeros, 0, ⟨#[]⟩, 0, zeros_len⟩
def zTu : Tu := ⟨0, ⟨#[]⟩⟩
theorem AI : Arr 222 35 zTi.cells.toArray := ⟨.inr ⟨_, Tryz.underlying222⟩, by kernel_rfl, fun w => by kernel_rfl, fun w => by kernel_rfl, by rw [List.size_toArray, Ti.len]⟩
theorem AO : Arr 163 2 zTu.cells.toArray := ⟨.inr ⟨_, Tryz.underlying163⟩, by kernel_rfl, fun w => by kernel_rfl, fun w => by kernel_rfl, rfl⟩
/-- A transaction's cells: the places of its lists are told. -/
def Tm.cells (m : Tm) (ai : Option Addr) (ci : Nat) (ao : Option Addr) (co : Nat) : Array Value := #[.int .u32 (m.ver.toNat : Int), .slice ai m.ins.length ci, .slice ao m.outs.length co, .int .u32 (m.time.toNat : Int)]
def zT : Tm := ⟨0, [], [], 0⟩
theorem AT : Arr 159 4 (zT.cells none 0 none 0) := ⟨.inr ⟨_, Tryz.underlying159⟩, by kernel_rfl, fun w => by kernel_rfl, fun w => by kernel_rfl, rfl⟩
theorem Tm.one (m : Tm) (ai : Option Addr) (ci : Nat) (ao : Option Addr) (co : Nat) : (m.cells ai ci ao co).all (·.oneCell') = true := by simp [Tm.cells, Value.oneCell']
theorem Ti.all (x : Ti) : x.cells.toArray.all (·.oneCell') = true := by
  rw [Array.all_eq_true_iff_forall_mem]
  intro v hv
  exact x.one v (by simpa using hv)
theorem Tu.all (x : Tu) : x.cells.toArray.all (·.oneCell') = true := by simp [Tu.cells, Value.oneCell']
theorem Ti.size (x : Ti) : x.cells.toArray.size = 35 := by rw [List.size_toArray, x.len]
/-- A transaction's lists can be read. -/
structure LT (w : World) (m : Tm) (ai : Option Addr) (ci : Nat) (ao : Option Addr) (co : Nat) : Prop where
  i : LX KA w (.slice ai m.ins.length ci) m.ins
  o : LX KO w (.slice ao m.outs.length co) m.outs
theorem LT.below {w W : World} {m : Tm} {ai : Option Addr} {ci : Nat} {ao : Option Addr} {co : Nat} (h : LT w m ai ci ao co) (b : Below w.heap.size w W) : LT W m ai ci ao co := ⟨h.i.below b, h.o.below b⟩
/-- Its lists are no longer than memory is. -/
structure Tm.fit (m : Tm) : Prop where
  i : m.ins.length * 64 ≤ 140737488355328
  o : m.outs.length * 24 ≤ 140737488355328
section
variable {w : World} {ops : Array Oper} {rest : List Oper} {o : Oper} {a : Act} {Q : Exit → Act → World → Prop}
theorem wpLoadI (x : Operand) (ho : o.op = .load 222 x) (g off : Nat) (hx : a.eval x = .pointer (some ⟨g, off, none⟩)) (y : Ti) (hr : w.rangeAt g off y.cells) (hw : Region.wanted o (yielded ops a.tmps) = true)
    (h : wpList Tryz.prog ops Q rest (a.put o.dst (.agg y.cells.toArray)) w) : wpList Tryz.prog ops Q (o :: rest) a w := wpLoadX KA Tryz.underlying222 rfl x ho g off hx y hr hw h
theorem wpLoadO (x : Operand) (ho : o.op = .load 163 x) (g off : Nat) (hx : a.eval x = .pointer (some ⟨g, off, none⟩)) (y : Tu) (hr : w.rangeAt g off y.cells) (hw : Region.wanted o (yielded ops a.tmps) = true)
    (h : wpList Tryz.prog ops Q rest (a.put o.dst (.agg y.cells.toArray)) w) : wpList Tryz.prog ops Q (o :: rest) a w := wpLoadX KO Tryz.underlying163 rfl x ho g off hx y hr hw h
theorem wpLoadIr (x : Operand) (ho : o.op = .load 168 x) (g off : Nat) (hx : a.eval x = .pointer (some ⟨g, off, none⟩)) (y : Ti) (hr : w.rangeAt g off y.cells) (hw : Region.wanted o (yielded ops a.tmps) = true)
    (h : wpList Tryz.prog ops Q rest (a.put o.dst (.agg y.cells.toArray)) w) : wpList Tryz.prog ops Q (o :: rest) a w := wpLoadX KAr Tryz.underlying168 rfl x ho g off hx y hr hw h
theorem wpLoadOr (x : Operand) (ho : o.op = .load 170 x) (g off : Nat) (hx : a.eval x = .pointer (some ⟨g, off, none⟩)) (y : Tu) (hr : w.rangeAt g off y.cells) (hw : Region.wanted o (yielded ops a.tmps) = true)
    (h : wpList Tryz.prog ops Q rest (a.put o.dst (.agg y.cells.toArray)) w) : wpList Tryz.prog ops Q (o :: rest) a w := wpLoadX KOr Tryz.underlying170 rfl x ho g off hx y hr hw h
end
/-! ### an input's cells -/
theorem Ti.at33 (x : Ti) : x.cells.toArray[33]? = some (.string x.key) := by
  have h : (cellsL x.hash).length = 32 := by rw [cellsL_len, x.hh]
  rw [List.getElem?_toArray, Ti.cells, List.getElem?_append_right (by omega), h]; rfl
theorem Ti.at32 (x : Ti) : x.cells.toArray[32]? = some (.int .u32 (x.idx.toNat : Int)) := by
  have h : (cellsL x.hash).length = 32 := by rw [cellsL_len, x.hh]
  rw [List.getElem?_toArray, Ti.cells, List.getElem?_append_right (by omega), h]; rfl
theorem Ti.at34 (x : Ti) : x.cells.toArray[34]? = some (.int .u32 (x.seq.toNat : Int)) := by
  have h : (cellsL x.hash).length = 32 := by rw [cellsL_len, x.hh]
  rw [List.getElem?_toArray, Ti.cells, List.getElem?_append_right (by omega), h]; rfl
theorem Ti.hashAt {W : World} {g : Nat} {t : TypeId} (x : Ti) (h : W.heap[g]? = some (.cells x.cells.toArray t (0, 0))) : W.rangeAt g 0 (cellsL x.hash) := fun j v hv => by
  have hj := (List.getElem?_eq_some_iff.1 hv).1
  rw [cell_of_row _ _ _ _ _ _ h, List.getElem?_toArray, Nat.zero_add, Ti.cells, List.getElem?_append_left hj]
  exact hv
theorem ld_hash {W : World} {g off : Nat} (y : List UInt8) (hy : y.length = 32) (hr : W.rangeAt g off (cellsL y)) : (Instr.loadAt 46 (.pointer (some ⟨g, off, none⟩))).run Tryz.prog W = .ok (.agg (hc y)) W :=
  run_loadAt_mid W g off 46 _ _ hr Tryz.underlying46 rfl (by rw [cellsL_len, hy]; kernel_rfl)
theorem wpLoadHash {w : World} {ops : Array Oper} {rest : List Oper} {o : Oper} {a : Act} {Q : Exit → Act → World → Prop} (x : Operand) (ho : o.op = .load 46 x) (g off : Nat) (hx : a.eval x = .pointer (some ⟨g, off, none⟩)) (y : List UInt8) (hy : y.length = 32) (hr : w.rangeAt g off (cellsL y)) (hw : Region.wanted o (yielded ops a.tmps) = true)
    (h : wpList Tryz.prog ops Q rest (a.put o.dst (.agg (hc y))) w) : wpList Tryz.prog ops Q (o :: rest) a w := by
  refine wpList_step fun K hK => ?_
  rw [if_pos hw]
  unfold Oper.wp execOp
  simp only [ho, hx, ld_hash y hy hr, Sem.run_bind, Result.andThen_ok, Sem.run_pure]
  exact hK _ _ h
/-! ### sizes -/
theorem txtL_len (x : ByteArray) : ((txtL x).length : Int) = clong x.size + x.size := by
  rw [txtL, List.length_append]
  have := countL_len x.size
  simp
  omega
theorem insL_take (L : List Ti) (k : Nat) (h : k < L.length) : insL (L.take (k + 1)) = insL (L.take k) ++ L[k].bytes := by
  rw [← List.take_append_getElem h]; simp only [insL, List.map_append, List.flatten_append, List.map_cons, List.map_nil, List.flatten_cons, List.flatten_nil, List.append_nil]
theorem outsL_take (L : List Tu) (k : Nat) (h : k < L.length) : outsL (L.take (k + 1)) = outsL (L.take k) ++ L[k].bytes := by
  rw [← List.take_append_getElem h]; simp only [outsL, List.map_append, List.flatten_append, List.map_cons, List.map_nil, List.flatten_cons, List.flatten_nil, List.append_nil]
theorem Ti.bytes_len (x : Ti) : (x.bytes.length : Int) = 40 + (clong x.key.size + x.key.size) := by
  have := txtL_len x.key
  simp only [Ti.bytes, List.length_append, lowL_len, x.hh]
  omega
theorem Tu.bytes_len (x : Tu) : (x.bytes.length : Int) = 8 + (clong x.lock.size + x.lock.size) := by
  have := txtL_len x.lock
  simp only [Tu.bytes, List.length_append, lowL_len]
  omega
theorem Tm.bytes_len (m : Tm) : (m.bytes.length : Int) = 8 + clong m.ins.length + clong m.outs.length + (insL m.ins).length + (outsL m.outs).length := by
  have h1 := countL_len m.ins.length
  have h2 := countL_len m.outs.length
  simp only [Tm.bytes, List.length_append, lowL_len]
  omega
theorem insL_le (L : List Ti) (k : Nat) : (insL (L.take k)).length ≤ (insL L).length := by
  have : insL L = insL (L.take k) ++ insL (L.drop k) := by simp only [insL]; rw [← List.flatten_append, ← List.map_append, List.take_append_drop]
  rw [this, List.length_append]; omega
theorem outsL_le (L : List Tu) (k : Nat) : (outsL (L.take k)).length ≤ (outsL L).length := by
  have : outsL L = outsL (L.take k) ++ outsL (L.drop k) := by simp only [outsL]; rw [← List.flatten_append, ← List.map_append, List.take_append_drop]
  rw [this, List.length_append]; omega
theorem clong_pos (n : Int) : 1 ≤ clong n := by unfold clong; repeat' split <;> omega
section
set_option maxRecDepth 10000
set_option maxHeartbeats 4000000
theorem tcountLong_any (n : Nat) (hn : n ≤ 9223372036854775807) (w : World) : Calls Tryz.prog 253 #[.int .i64 n] w fun e w' => e = .returned (.int .i64 (clong n)) ∧ w' = w := by
  have e1 : IntKind.u64.wrap (n : Int) = n := wrapu _ (by omega) (by omega)
  go_enter Tryz.func253, Tryz.ntmps253
  go_wp2_with (go_at_call 248; refine (countLong_any n _).mono ?_; rintro e w1 ⟨rfl, rfl⟩)
  go_ret
  exact ⟨rfl, rfl⟩
theorem textLong_any (x : ByteArray) (hx : clong x.size + x.size ≤ 9223372036854775807) (w : World) : Calls Tryz.prog 254 #[.string x] w fun e w' => e = .returned (.int .i64 (clong x.size + x.size)) ∧ w' = w := by
  have h1 := clong_le x.size
  have h2 := clong_pos x.size
  have e1 : IntKind.i64.wrap (clong x.size + x.size) = clong x.size + x.size := wrapI _ (by omega) (by omega)
  have HC := hide (fun W => tcountLong_any x.size (by omega) W)
  clear h1 h2 hx
  generalize clong x.size = c at *
  go_enter Tryz.func254, Tryz.ntmps254
  go_wp2_with (go_at_call 253; refine (HC.out _).mono ?_; rintro e w1 ⟨rfl, rfl⟩)
  go_ret
  exact ⟨rfl, rfl⟩
end
end Go.Proofs.YthhojpplbhnnfaaGreatDoor
namespace Go.Proofs.YthhojpplbhnnfaaGreatDoor
open Go.RowKit
open Go.Deep
set_option linter.unusedVariables false
theorem id32' : ∀ (l : List UInt8), l.length = 32 → ∃ b0 b1 b2 b3 b4 b5 b6 b7 b8 b9 b10 b11 b12 b13 b14 b15 b16 b17 b18 b19 b20 b21 b22 b23 b24 b25 b26 b27 b28 b29 b30 b31, l = [b0, b1, b2, b3, b4, b5, b6, b7, b8, b9, b10, b11, b12, b13, b14, b15, b16, b17, b18, b19, b20, b21, b22, b23, b24, b25, b26, b27, b28, b29, b30, b31]
  | [b0, b1, b2, b3, b4, b5, b6, b7, b8, b9, b10, b11, b12, b13, b14, b15, b16, b17, b18, b19, b20, b21, b22, b23, b24, b25, b26, b27, b28, b29, b30, b31], _ => ⟨b0, b1, b2, b3, b4, b5, b6, b7, b8, b9, b10, b11, b12, b13, b14, b15, b16, b17, b18, b19, b20, b21, b22, b23, b24, b25, b26, b27, b28, b29, b30, b31, rfl⟩
theorem ATr : Arr 173 4 (zT.cells none 0 none 0) := ⟨.inr ⟨_, Tryz.underlying173⟩, by kernel_rfl, fun w => by kernel_rfl, fun w => by kernel_rfl, rfl⟩
/-- The document's transaction: its lists can be read. -/
structure LR (w : World) (m : Tm) (ai : Option Addr) (ci : Nat) (ao : Option Addr) (co : Nat) : Prop where
  i : LX KAr w (.slice ai m.ins.length ci) m.ins
  o : LX KOr w (.slice ao m.outs.length co) m.outs
theorem LR.below {w W : World} {m : Tm} {ai : Option Addr} {ci : Nat} {ao : Option Addr} {co : Nat} (h : LR w m ai ci ao co) (b : Below w.heap.size w W) : LR W m ai ci ao co := ⟨h.i.below b, h.o.below b⟩
theorem bld_In (x : Ti) (W : World) : (Instr.build 168 #[(0, .agg (hc x.hash)), (1, .int .u32 (x.idx.toNat : Int)), (2, .string x.key), (3, .int .u32 (x.seq.toNat : Int))]).run Tryz.prog W = .ok (.agg x.cells.toArray) W := by
  obtain ⟨h, i, k, s, hh⟩ := x
  obtain ⟨_, _, _, _, _, _, _, _, _, _, _, _, _, _, _, _, _, _, _, _, _, _, _, _, _, _, _, _, _, _, _, _, rfl⟩ := id32' h hh
  kernel_rfl
theorem bld_Tx (v t : UInt32) (W : World) : (Instr.build 173 #[(0, .int .u32 (v.toNat : Int)), (3, .int .u32 (t.toNat : Int))]).run Tryz.prog W = .ok (.agg ((⟨v, [], [], t⟩ : Tm).cells none 0 none 0)) W := by kernel_rfl
section
variable {w : World} {ops : Array Oper} {rest : List Oper} {o : Oper} {a : Act} {Q : Exit → Act → World → Prop}
theorem wpList_bldX {t : TypeId} (hgd : o.guard = none) (x : Array (Nat × Operand)) (ho : o.op = .build t x) (y : Array (Nat × Value)) (c : Array Value) (hx : x.map (fun p => (p.1, a.eval p.2)) = y) (hr : ∀ W, (Instr.build t y).run Tryz.prog W = .ok (.agg c) W)
    (h : wpList Tryz.prog ops Q rest (a.put o.dst (.agg c)) w) : wpList Tryz.prog ops Q (o :: rest) a w := by
  refine wpList_plain hgd fun K hK => ?_
  unfold Oper.wp execOp
  simp only [ho, hx, hr, Sem.run_bind, Result.andThen_ok, Sem.run_pure]
  exact hK _ _ h
end
/-- While given makes its answer. -/
structure Gv (w W : World) (C : Array Value) (p : Tm) (ai : Option Addr) (ci : Nat) (ao : Option Addr) (co : Nat) : Prop where
  bel : Below w.heap.size w W
  r0 : W.heap[w.heap.size]? = some (.cells C 159 (0, 0))
  r1 : W.heap[w.heap.size + 1]? = some (.cells (zT.cells none 0 none 0) 173 (0, 0))
  r2 : W.heap[w.heap.size + 1 + 1]? = some (.cells (p.cells ai ci ao co) 173 (0, 0))
  xi : OX KAr W (.slice ai p.ins.length ci) p.ins
  fi : ∀ g, (Value.slice ai p.ins.length ci).ownBlock = some g → w.heap.size + 1 + 1 < g
  xo : OX KOr W (.slice ao p.outs.length co) p.outs
  fo : ∀ g, (Value.slice ao p.outs.length co).ownBlock = some g → w.heap.size + 1 + 1 < g
section
variable {w W W' : World} {C : Array Value} {p : Tm} {ai : Option Addr} {ci : Nat} {ao : Option Addr} {co : Nat}
theorem Gv.next (h : Gv w W C p ai ci ao co) (k : Below W.heap.size W W') : Gv w W' C p ai ci ao co := ⟨below_next h.bel k, (k.block _ (lt_heap h.r0)).trans h.r0, (k.block _ (lt_heap h.r1)).trans h.r1, (k.block _ (lt_heap h.r2)).trans h.r2, h.xi.below k, h.fi, h.xo.below k, h.fo⟩
/-- What an append leaves that stands behind what was there. -/
theorem Gv.onto {v v' : Value} (h : Gv w W C p ai ci ao co) (o : Obj) (fv : ∀ g, v.ownBlock = some g → w.heap.size + 1 + 1 < g) (on : Onto (W.alloc o) W' v v') : Below w.heap.size w W' ∧ (∀ k, k ≤ w.heap.size + 1 + 1 → W'.heap[k]? = W.heap[k]?) ∧ ∀ g, v'.ownBlock = some g → w.heap.size + 1 + 1 < g := by
  have hr := lt_heap h.r2
  have hsz : (W.alloc o).heap.size = W.heap.size + 1 := by simp
  have hk : ∀ k, k ≤ w.heap.size + 1 + 1 → W'.heap[k]? = W.heap[k]? := fun k hk => (on.grown.block k (by omega) (fun e => by have := fv k e.symm; omega)).trans (Below.heap_alloc W o k (by omega))
  have g := on.grown
  have ba : Below W.heap.size W (W.alloc o) := (Below.refl _ _).alloc (Nat.le_refl _) _
  refine ⟨⟨(g.os.trans ba.os).trans h.bel.os, (g.tape.trans ba.tape).trans h.bel.tape, (g.output.trans ba.output).trans h.bel.output, ?_, fun k k1 => (hk k (by omega)).trans (h.bel.block k k1)⟩, hk, fun b hb => ?_⟩
  · have := h.bel.size
    have := g.size
    omega
  · rcases on.lies with q | ⟨c, q, hc⟩
    · exact fv b (by rw [← q]; exact hb)
    · rw [q] at hb
      cases hb
      omega
theorem Gv.appI {ai' : Option Addr} {ci' : Nat} {x : Ti} (h : Gv w W C p ai ci ao co) (o : Obj) (q : OX KAr W' (.slice ai' (p.ins ++ [x]).length ci') (p.ins ++ [x])) (on : Onto (W.alloc o) W' (.slice ai p.ins.length ci) (.slice ai' (p.ins ++ [x]).length ci')) (ne : ∀ g, (Value.slice ao p.outs.length co).ownBlock = some g → W'.heap[g]? = W.heap[g]?) : Gv w (W'.setCell ⟨w.heap.size + 1 + 1, 1, none⟩ (.slice ai' (p.ins ++ [x]).length ci')) C { p with ins := p.ins ++ [x] } ai' ci' ao co := by
  obtain ⟨b1, hk, f1⟩ := h.onto o h.fi on
  have hs : ∀ k, k ≠ w.heap.size + 1 + 1 → (W'.setCell ⟨w.heap.size + 1 + 1, 1, none⟩ (.slice ai' (p.ins ++ [x]).length ci')).heap[k]? = W'.heap[k]? := fun k hk => blk_setCell_other W' ⟨w.heap.size + 1 + 1, 1, none⟩ _ k hk
  refine ⟨⟨b1.os, b1.tape, b1.output, by have := b1.size; simpa using this, fun k k1 => (hs k (by omega)).trans (b1.block k k1)⟩, (hs _ (by omega)).trans ((hk _ (by omega)).trans h.r0), (hs _ (by omega)).trans ((hk _ (by omega)).trans h.r1), ?_, q.of_block fun g hg => hs g (by have := f1 g hg; omega), f1, (h.xo.of_block fun g hg => ne g hg).of_block fun g hg => hs g (by have := h.fo g hg; omega), h.fo⟩
  rw [heap_setCell_same W' _ 1 _ _ _ ((hk _ (Nat.le_refl _)).trans h.r2)]
  rfl
theorem Gv.appO {ao' : Option Addr} {co' : Nat} {x : Tu} (h : Gv w W C p ai ci ao co) (o : Obj) (q : OX KOr W' (.slice ao' (p.outs ++ [x]).length co') (p.outs ++ [x])) (on : Onto (W.alloc o) W' (.slice ao p.outs.length co) (.slice ao' (p.outs ++ [x]).length co')) (ne : ∀ g, (Value.slice ai p.ins.length ci).ownBlock = some g → W'.heap[g]? = W.heap[g]?) : Gv w (W'.setCell ⟨w.heap.size + 1 + 1, 2, none⟩ (.slice ao' (p.outs ++ [x]).length co')) C { p with outs := p.outs ++ [x] } ai ci ao' co' := by
  obtain ⟨b1, hk, f1⟩ := h.onto o h.fo on
  have hs : ∀ k, k ≠ w.heap.size + 1 + 1 → (W'.setCell ⟨w.heap.size + 1 + 1, 2, none⟩ (.slice ao' (p.outs ++ [x]).length co')).heap[k]? = W'.heap[k]? := fun k hk => blk_setCell_other W' ⟨w.heap.size + 1 + 1, 2, none⟩ _ k hk
  refine ⟨⟨b1.os, b1.tape, b1.output, by have := b1.size; simpa using this, fun k k1 => (hs k (by omega)).trans (b1.block k k1)⟩, (hs _ (by omega)).trans ((hk _ (by omega)).trans h.r0), (hs _ (by omega)).trans ((hk _ (by omega)).trans h.r1), ?_, (h.xi.of_block fun g hg => ne g hg).of_block fun g hg => hs g (by have := h.fi g hg; omega), h.fi, q.of_block fun g hg => hs g (by have := f1 g hg; omega), f1⟩
  rw [heap_setCell_same W' _ 2 _ _ _ ((hk _ (Nat.le_refl _)).trans h.r2)]
  rfl
/-- Inputs and outputs lie in blocks of their own: their types are not the same. -/
theorem OX.type {α : Type} {E : Ek α} {v : Value} {L : List α} (h : OX E W v L) : ∀ g, v.ownBlock = some g → ∃ c, W.heap[g]? = some (.cells c E.e (0, 0)) := by
  intro g hg
  rcases h.2 with ⟨rfl, h0⟩ | ⟨g', cap, cur, rfl, h4, hb, h5⟩
  · cases hg
  · cases hg
    exact ⟨cur, hb⟩
theorem Gv.other {ai' : Option Addr} {ci' : Nat} {x : Ti} (h : Gv w W C p ai ci ao co) (o : Obj) (on : Onto (W.alloc o) W' (.slice ai p.ins.length ci) (.slice ai' (p.ins ++ [x]).length ci')) : ∀ g, (Value.slice ao p.outs.length co).ownBlock = some g → W'.heap[g]? = W.heap[g]? := fun g hg => by
  have hlt := h.xo.lt g hg
  have hsz : (W.alloc o).heap.size = W.heap.size + 1 := by simp
  refine (on.grown.block g (by omega) (fun e => ?_)).trans (Below.heap_alloc W o g hlt)
  obtain ⟨c1, q1⟩ := h.xo.type g hg
  obtain ⟨c2, q2⟩ := h.xi.type g e.symm
  rw [q1] at q2
  injection q2 with q2
  injection q2 with _ q3
  exact absurd q3 (by decide)
theorem Gv.otherO {ao' : Option Addr} {co' : Nat} {x : Tu} (h : Gv w W C p ai ci ao co) (o : Obj) (on : Onto (W.alloc o) W' (.slice ao p.outs.length co) (.slice ao' (p.outs ++ [x]).length co')) : ∀ g, (Value.slice ai p.ins.length ci).ownBlock = some g → W'.heap[g]? = W.heap[g]? := fun g hg => by
  have hlt := h.xi.lt g hg
  have hsz : (W.alloc o).heap.size = W.heap.size + 1 := by simp
  refine (on.grown.block g (by omega) (fun e => ?_)).trans (Below.heap_alloc W o g hlt)
  obtain ⟨c1, q1⟩ := h.xi.type g hg
  obtain ⟨c2, q2⟩ := h.xo.type g e.symm
  rw [q1] at q2
  injection q2 with q2
  injection q2 with _ q3
  exact absurd q3 (by decide)
end
end Go.Proofs.YthhojpplbhnnfaaGreatDoor
