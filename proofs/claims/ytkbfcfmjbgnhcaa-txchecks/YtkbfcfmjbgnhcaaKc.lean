/- Transactions in memory; how many bytes they have. -/
import Derived.Test.YtkbfcfmjbgnhcaaKb
namespace Go.Proofs.Ytkbfcfmjbgnhcaa
open Go.RowKit
open Go.Deep
set_option linter.unusedVariables false
def zTi : Ti := ⟨zeros, 0, ⟨#[]⟩, 0, zeros_len⟩
def zTu : Tu := ⟨0, ⟨#[]⟩⟩
theorem AI : Arr 48 35 zTi.cells.toArray := ⟨.inr ⟨_, Try.underlying48⟩, by kernel_rfl, fun w => by kernel_rfl, fun w => by kernel_rfl, by rw [List.size_toArray, Ti.len]⟩
theorem AO : Arr 52 2 zTu.cells.toArray := ⟨.inr ⟨_, Try.underlying52⟩, by kernel_rfl, fun w => by kernel_rfl, fun w => by kernel_rfl, rfl⟩
/-- A transaction's cells: the places of its lists are told. -/
def Tm.cells (m : Tm) (ai : Option Addr) (ci : Nat) (ao : Option Addr) (co : Nat) : Array Value := #[.int .u32 (m.ver.toNat : Int), .slice ai m.ins.length ci, .slice ao m.outs.length co, .int .u32 (m.time.toNat : Int)]
def zT : Tm := ⟨0, [], [], 0⟩
theorem AT : Arr 26 4 (zT.cells none 0 none 0) := ⟨.inr ⟨_, Try.underlying26⟩, by kernel_rfl, fun w => by kernel_rfl, fun w => by kernel_rfl, rfl⟩
theorem Tm.one (m : Tm) (ai : Option Addr) (ci : Nat) (ao : Option Addr) (co : Nat) : (m.cells ai ci ao co).all (·.oneCell') = true := by simp [Tm.cells, Value.oneCell']
theorem Ti.all (x : Ti) : x.cells.toArray.all (·.oneCell') = true := by
  rw [Array.all_eq_true_iff_forall_mem]
  intro v hv
  exact x.one v (by simpa using hv)
theorem Tu.all (x : Tu) : x.cells.toArray.all (·.oneCell') = true := by simp [Tu.cells, Value.oneCell']
theorem Ti.size (x : Ti) : x.cells.toArray.size = 35 := by rw [List.size_toArray, x.len]
/-- A transaction's lists can be read. -/
structure LT (w : World) (m : Tm) (ai : Option Addr) (ci : Nat) (ao : Option Addr) (co : Nat) : Prop where
  i : LX KA w (.slice ai m.ins.length ci) m.ins
  o : LX KO w (.slice ao m.outs.length co) m.outs
theorem LT.below {w W : World} {m : Tm} {ai : Option Addr} {ci : Nat} {ao : Option Addr} {co : Nat} (h : LT w m ai ci ao co) (b : Below w.heap.size w W) : LT W m ai ci ao co := ⟨h.i.below b, h.o.below b⟩
/-- Its lists are no longer than memory is. -/
structure Tm.fit (m : Tm) : Prop where
  i : m.ins.length * 64 ≤ 140737488355328
  o : m.outs.length * 24 ≤ 140737488355328
section
variable {w : World} {ops : Array Oper} {rest : List Oper} {o : Oper} {a : Act} {Q : Exit → Act → World → Prop}
theorem wpLoadI (x : Operand) (ho : o.op = .load 48 x) (g off : Nat) (hx : a.eval x = .pointer (some ⟨g, off, none⟩)) (y : Ti) (hr : w.rangeAt g off y.cells) (hw : Region.wanted o (yielded ops a.tmps) = true)
    (h : wpList Try.prog ops Q rest (a.put o.dst (.agg y.cells.toArray)) w) : wpList Try.prog ops Q (o :: rest) a w := wpLoadX KA Try.underlying48 rfl x ho g off hx y hr hw h
theorem wpLoadO (x : Operand) (ho : o.op = .load 52 x) (g off : Nat) (hx : a.eval x = .pointer (some ⟨g, off, none⟩)) (y : Tu) (hr : w.rangeAt g off y.cells) (hw : Region.wanted o (yielded ops a.tmps) = true)
    (h : wpList Try.prog ops Q rest (a.put o.dst (.agg y.cells.toArray)) w) : wpList Try.prog ops Q (o :: rest) a w := wpLoadX KO Try.underlying52 rfl x ho g off hx y hr hw h
theorem wpLoadIr (x : Operand) (ho : o.op = .load 50 x) (g off : Nat) (hx : a.eval x = .pointer (some ⟨g, off, none⟩)) (y : Ti) (hr : w.rangeAt g off y.cells) (hw : Region.wanted o (yielded ops a.tmps) = true)
    (h : wpList Try.prog ops Q rest (a.put o.dst (.agg y.cells.toArray)) w) : wpList Try.prog ops Q (o :: rest) a w := wpLoadX KAr Try.underlying50 rfl x ho g off hx y hr hw h
theorem wpLoadOr (x : Operand) (ho : o.op = .load 53 x) (g off : Nat) (hx : a.eval x = .pointer (some ⟨g, off, none⟩)) (y : Tu) (hr : w.rangeAt g off y.cells) (hw : Region.wanted o (yielded ops a.tmps) = true)
    (h : wpList Try.prog ops Q rest (a.put o.dst (.agg y.cells.toArray)) w) : wpList Try.prog ops Q (o :: rest) a w := wpLoadX KOr Try.underlying53 rfl x ho g off hx y hr hw h
end
/-! ### an input's cells -/
theorem Ti.at33 (x : Ti) : x.cells.toArray[33]? = some (.string x.key) := by
  have h : (cellsL x.hash).length = 32 := by rw [cellsL_len, x.hh]
  rw [List.getElem?_toArray, Ti.cells, List.getElem?_append_right (by omega), h]; rfl
theorem Ti.at32 (x : Ti) : x.cells.toArray[32]? = some (.int .u32 (x.idx.toNat : Int)) := by
  have h : (cellsL x.hash).length = 32 := by rw [cellsL_len, x.hh]
  rw [List.getElem?_toArray, Ti.cells, List.getElem?_append_right (by omega), h]; rfl
theorem Ti.at34 (x : Ti) : x.cells.toArray[34]? = some (.int .u32 (x.seq.toNat : Int)) := by
  have h : (cellsL x.hash).length = 32 := by rw [cellsL_len, x.hh]
  rw [List.getElem?_toArray, Ti.cells, List.getElem?_append_right (by omega), h]; rfl
theorem Ti.hashAt {W : World} {g : Nat} {t : TypeId} (x : Ti) (h : W.heap[g]? = some (.cells x.cells.toArray t (0, 0))) : W.rangeAt g 0 (cellsL x.hash) := fun j v hv => by
  have hj := (List.getElem?_eq_some_iff.1 hv).1
  rw [cell_of_row _ _ _ _ _ _ h, List.getElem?_toArray, Nat.zero_add, Ti.cells, List.getElem?_append_left hj]
  exact hv
theorem ld_hash {W : World} {g off : Nat} (y : List UInt8) (hy : y.length = 32) (hr : W.rangeAt g off (cellsL y)) : (Instr.loadAt 44 (.pointer (some ⟨g, off, none⟩))).run Try.prog W = .ok (.agg (hc y)) W :=
  run_loadAt_mid W g off 44 _ _ hr Try.underlying44 rfl (by rw [cellsL_len, hy]; kernel_rfl)
theorem wpLoadHash {w : World} {ops : Array Oper} {rest : List Oper} {o : Oper} {a : Act} {Q : Exit → Act → World → Prop} (x : Operand) (ho : o.op = .load 44 x) (g off : Nat) (hx : a.eval x = .pointer (some ⟨g, off, none⟩)) (y : List UInt8) (hy : y.length = 32) (hr : w.rangeAt g off (cellsL y)) (hw : Region.wanted o (yielded ops a.tmps) = true)
    (h : wpList Try.prog ops Q rest (a.put o.dst (.agg (hc y))) w) : wpList Try.prog ops Q (o :: rest) a w := by
  refine wpList_step fun K hK => ?_
  rw [if_pos hw]
  unfold Oper.wp execOp
  simp only [ho, hx, ld_hash y hy hr, Sem.run_bind, Result.andThen_ok, Sem.run_pure]
  exact hK _ _ h
/-! ### sizes -/
theorem txtL_len (x : ByteArray) : ((txtL x).length : Int) = clong x.size + x.size := by
  rw [txtL, List.length_append]
  have := countL_len x.size
  simp
  omega
theorem insL_take (L : List Ti) (k : Nat) (h : k < L.length) : insL (L.take (k + 1)) = insL (L.take k) ++ L[k].bytes := by
  rw [← List.take_append_getElem h]; simp only [insL, List.map_append, List.flatten_append, List.map_cons, List.map_nil, List.flatten_cons, List.flatten_nil, List.append_nil]
theorem outsL_take (L : List Tu) (k : Nat) (h : k < L.length) : outsL (L.take (k + 1)) = outsL (L.take k) ++ L[k].bytes := by
  rw [← List.take_append_getElem h]; simp only [outsL, List.map_append, List.flatten_append, List.map_cons, List.map_nil, List.flatten_cons, List.flatten_nil, List.append_nil]
theorem Ti.bytes_len (x : Ti) : (x.bytes.length : Int) = 40 + (clong x.key.size + x.key.size) := by
  have := txtL_len x.key
  simp only [Ti.bytes, List.length_append, lowL_len, x.hh]
  omega
theorem Tu.bytes_len (x : Tu) : (x.bytes.length : Int) = 8 + (clong x.lock.size + x.lock.size) := by
  have := txtL_len x.lock
  simp only [Tu.bytes, List.length_append, lowL_len]
  omega
theorem Tm.bytes_len (m : Tm) : (m.bytes.length : Int) = 8 + clong m.ins.length + clong m.outs.length + (insL m.ins).length + (outsL m.outs).length := by
  have h1 := countL_len m.ins.length
  have h2 := countL_len m.outs.length
  simp only [Tm.bytes, List.length_append, lowL_len]
  omega
theorem insL_le (L : List Ti) (k : Nat) : (insL (L.take k)).length ≤ (insL L).length := by
  have : insL L = insL (L.take k) ++ insL (L.drop k) := by simp only [insL]; rw [← List.flatten_append, ← List.map_append, List.take_append_drop]
  rw [this, List.length_append]; omega
theorem outsL_le (L : List Tu) (k : Nat) : (outsL (L.take k)).length ≤ (outsL L).length := by
  have : outsL L = outsL (L.take k) ++ outsL (L.drop k) := by simp only [outsL]; rw [← List.flatten_append, ← List.map_append, List.take_append_drop]
  rw [this, List.length_append]; omega
theorem clong_pos (n : Int) : 1 ≤ clong n := by unfold clong; repeat' split <;> omega
section
set_option maxRecDepth 10000
set_option maxHeartbeats 4000000
theorem tcountLong_any (n : Nat) (hn : n ≤ 9223372036854775807) (w : World) : Calls Try.prog 36 #[.int .i64 n] w fun e w' => e = .returned (.int .i64 (clong n)) ∧ w' = w := by
  have e1 : IntKind.u64.wrap (n : Int) = n := wrapu _ (by omega) (by omega)
  go_enter Try.func36, Try.ntmps36
  go_wp2_with (go_at_call 41; refine (countLong_any n _).mono ?_; rintro e w1 ⟨rfl, rfl⟩)
  go_ret
  exact ⟨rfl, rfl⟩
theorem textLong_any (x : ByteArray) (hx : clong x.size + x.size ≤ 9223372036854775807) (w : World) : Calls Try.prog 37 #[.string x] w fun e w' => e = .returned (.int .i64 (clong x.size + x.size)) ∧ w' = w := by
  have h1 := clong_le x.size
  have h2 := clong_pos x.size
  have e1 : IntKind.i64.wrap (clong x.size + x.size) = clong x.size + x.size := wrapI _ (by omega) (by omega)
  have HC := hide (fun W => tcountLong_any x.size (by omega) W)
  clear h1 h2 hx
  generalize clong x.size = c at *
  go_enter Try.func37, Try.ntmps37
  go_wp2_with (go_at_call 36; refine (HC.out _).mono ?_; rintro e w1 ⟨rfl, rfl⟩)
  go_ret
  exact ⟨rfl, rfl⟩
end
end Go.Proofs.Ytkbfcfmjbgnhcaa
