/- What msg.Same reads. -/
import Derived.Test.YtiadfaipmpogbaaGreatPf
namespace Go.Proofs.YtiadfaipmpogbaaGreat
open Go.RowKit
open Go.Deep
theorem wpLoadX {α : Type} (E : Ek α) {kd : TypeDesc} (hu : Tryz.prog.underlying E.e = some kd) (hkd : kd.isRow = true) {w : World} {ops : Array Oper} {rest : List Oper} {o : Oper} {a : Act} {Q : Exit → Act → World → Prop} (x : Operand) (ho : o.op = .load E.e x) (g off : Nat) (hx : a.eval x = .pointer (some ⟨g, off, none⟩)) (y : α) (hr : w.rangeAt g off (E.enc y)) (hw : Region.wanted o (yielded ops a.tmps) = true)
    (h : wpList Tryz.prog ops Q rest (a.put o.dst (.agg (E.enc y).toArray)) w) : wpList Tryz.prog ops Q (o :: rest) a w := by
  refine wpList_step fun K hK => ?_
  rw [if_pos hw]
  unfold Oper.wp execOp
  simp only [ho, hx, Sem.run_bind, E.load y hu hkd hr, Result.andThen_ok, Sem.run_pure]
  exact hK _ _ h
theorem wpLoadN {w : World} {ops : Array Oper} {rest : List Oper} {o : Oper} {a : Act} {Q : Exit → Act → World → Prop} (x : Operand) (ho : o.op = .load 27 x) (g off : Nat) (hx : a.eval x = .pointer (some ⟨g, off, none⟩)) (y : Nt) (hr : w.rangeAt g off y.cells) (hw : Region.wanted o (yielded ops a.tmps) = true)
    (h : wpList Tryz.prog ops Q rest (a.put o.dst (.agg y.cells.toArray)) w) : wpList Tryz.prog ops Q (o :: rest) a w := wpLoadX KN Tryz.underlying27 rfl x ho g off hx y hr hw h
theorem wpLoadH {w : World} {ops : Array Oper} {rest : List Oper} {o : Oper} {a : Act} {Q : Exit → Act → World → Prop} (x : Operand) (ho : o.op = .load 32 x) (g off : Nat) (hx : a.eval x = .pointer (some ⟨g, off, none⟩)) (y : Id32) (hr : w.rangeAt g off (cellsL y.1)) (hw : Region.wanted o (yielded ops a.tmps) = true)
    (h : wpList Tryz.prog ops Q rest (a.put o.dst (.agg (cellsL y.1).toArray)) w) : wpList Tryz.prog ops Q (o :: rest) a w := wpLoadX KH Tryz.underlying32 rfl x ho g off hx y hr hw h
theorem wpLoadNr {w : World} {ops : Array Oper} {rest : List Oper} {o : Oper} {a : Act} {Q : Exit → Act → World → Prop} (x : Operand) (ho : o.op = .load 44 x) (g off : Nat) (hx : a.eval x = .pointer (some ⟨g, off, none⟩)) (y : Nt) (hr : w.rangeAt g off y.cells) (hw : Region.wanted o (yielded ops a.tmps) = true)
    (h : wpList Tryz.prog ops Q rest (a.put o.dst (.agg y.cells.toArray)) w) : wpList Tryz.prog ops Q (o :: rest) a w := wpLoadX KNr Tryz.underlying44 rfl x ho g off hx y hr hw h
theorem wpLoadHr {w : World} {ops : Array Oper} {rest : List Oper} {o : Oper} {a : Act} {Q : Exit → Act → World → Prop} (x : Operand) (ho : o.op = .load 31 x) (g off : Nat) (hx : a.eval x = .pointer (some ⟨g, off, none⟩)) (y : Id32) (hr : w.rangeAt g off (cellsL y.1)) (hw : Region.wanted o (yielded ops a.tmps) = true)
    (h : wpList Tryz.prog ops Q rest (a.put o.dst (.agg (cellsL y.1).toArray)) w) : wpList Tryz.prog ops Q (o :: rest) a w := wpLoadX KHr Tryz.underlying31 rfl x ho g off hx y hr hw h
theorem wpList_loadS {t : TypeId} {n : Nat} {z : Array Value} {w : World} {ops : Array Oper} {rest : List Oper} {o : Oper} {a : Act} {Q : Exit → Act → World → Prop} (A : Arr t n z) (x : Operand) (ho : o.op = .load t x) (g : Nat) (hx : a.eval x = .pointer (some ⟨g, 0, none⟩)) (c : Array Value) (hn : c.size = n) (t' : TypeId) (hg : w.heap[g]? = some (.cells c t' (0, 0))) (hw : Region.wanted o (yielded ops a.tmps) = true)
    (h : wpList Tryz.prog ops Q rest (a.put o.dst (.agg c)) w) : wpList Tryz.prog ops Q (o :: rest) a w := by
  refine wpList_step fun K hK => ?_
  rw [if_pos hw]
  unfold Oper.wp execOp
  simp only [ho, hx, Sem.run_bind, ld_row A hn hg, Result.andThen_ok, Sem.run_pure]
  exact hK _ _ h
def zN : Nt := ⟨0, 0, List.replicate 16 0, 0, by simp⟩
def zI : Id32 := ⟨zeros, zeros_len⟩
/-- The message of which nothing is told. -/
def zM : Mg := ⟨0, 0, 0, 0, 0, zN, zN, ByteArray.empty, 0, false, false, [], [], [], zI, zI, [], ByteArray.empty, ByteArray.empty, [], [], [], []⟩
def nil8 : Vs := ⟨.slice none 0 0, .slice none 0 0, .slice none 0 0, .slice none 0 0, .slice none 0 0, .slice none 0 0, .slice none 0 0, .slice none 0 0⟩
theorem AM : Arr 38 121 (zM.cells nil8).toArray := ⟨.inr ⟨_, Tryz.underlying38⟩, by kernel_rfl, fun w => by kernel_rfl, fun w => by kernel_rfl, Mg.size _ _⟩
theorem AMr : Arr 50 121 (zM.cells nil8).toArray := ⟨.inr ⟨_, Tryz.underlying50⟩, by kernel_rfl, fun w => by kernel_rfl, fun w => by kernel_rfl, Mg.size _ _⟩
def ldN (x : Value) : Sem Value := Instr.loadAt 27 x
theorem ldN_eq (x : Value) : Instr.loadAt 27 x = ldN x := rfl
theorem ldN_run {W : World} {g off : Nat} (y : Nt) (hr : W.rangeAt g off y.cells) : (ldN (.pointer (some ⟨g, off, none⟩))).run Tryz.prog W = .ok (.agg y.cells.toArray) W := KN.load y Tryz.underlying27 rfl hr
def ldH (x : Value) : Sem Value := Instr.loadAt 32 x
theorem ldH_eq (x : Value) : Instr.loadAt 32 x = ldH x := rfl
theorem ldH_run {W : World} {g off : Nat} (y : Id32) (hr : W.rangeAt g off (cellsL y.1)) : (ldH (.pointer (some ⟨g, off, none⟩))).run Tryz.prog W = .ok (.agg (cellsL y.1).toArray) W := KH.load y Tryz.underlying32 rfl hr
def eqlN (x y : Value) : Sem Value := binOp .eql 27 x y
theorem eqlN_eq (x y : Value) : binOp .eql 27 x y = eqlN x y := rfl
theorem eqlN_run (x y : Nt) (W : World) : (eqlN (.agg x.cells.toArray) (.agg y.cells.toArray)).run Tryz.prog W = .ok (.bool (decide (x = y))) W := by
  unfold eqlN
  rw [run_eql_struct, eqNt fn_api]
  rfl
def eqlH (x y : Value) : Sem Value := binOp .eql 32 x y
theorem eqlH_eq (x y : Value) : binOp .eql 32 x y = eqlH x y := rfl
theorem eqlH_run (x y : Id32) (W : World) : (eqlH (.agg (cellsL x.1).toArray) (.agg (cellsL y.1).toArray)).run Tryz.prog W = .ok (.bool (decide (x = y))) W := by
  unfold eqlH
  rw [run_eql_struct, eqId Tryz.underlying32]
  rfl
def ldM (x : Value) : Sem Value := Instr.loadAt 38 x
theorem ldM_eq (x : Value) : Instr.loadAt 38 x = ldM x := rfl
theorem ldM_run {W : World} {g : Nat} {m : Mg} {s : Vs} (h : W.heap[g]? = some (.cells (m.cells s).toArray 38 (0, 0))) : (ldM (.pointer (some ⟨g, 0, none⟩))).run Tryz.prog W = .ok (.agg (m.cells s).toArray) W := ld_row AM (Mg.size _ _) h
/-- Whether two messages are the same, field by field. -/
def eqM (a b : Mg) : Bool := (a.kind == b.kind) && ((a.vers.toNat : Int) == (b.vers.toNat : Int)) && ((a.serv.toNat : Int) == (b.serv.toNat : Int)) && ((a.nonce.toNat : Int) == (b.nonce.toNat : Int)) && (a.time == b.time) && (decide (a.dst = b.dst)) && (decide (a.src = b.src)) && (a.agent.toList == b.agent.toList) && ((a.height.toNat : Int) == (b.height.toNat : Int)) && (a.relay == b.relay) && (a.high == b.high) && (decide (a.stop = b.stop)) && (decide (a.hash = b.hash)) && (a.head.toList == b.head.toList) && (a.raw.toList == b.raw.toList) && eqL a b
theorem eqM_iff (a b : Mg) : eqM a b = decide (a = b) := by
  rw [Bool.eq_iff_iff]
  simp only [eqM, eqL, bytes_same, Bool.and_eq_true, beq_iff_eq, decide_eq_true_eq]
  constructor
  · intro h
    obtain ⟨⟨⟨⟨⟨⟨⟨⟨⟨⟨⟨⟨⟨⟨⟨h0, h1⟩, h2⟩, h3⟩, h4⟩, h5⟩, h6⟩, h7⟩, h8⟩, h9⟩, h10⟩, h11⟩, h12⟩, h13⟩, h14⟩, ⟨⟨⟨⟨⟨⟨⟨l0, l1⟩, l2⟩, l3⟩, l4⟩, l5⟩, l6⟩, l7⟩⟩ := h
    cases a
    cases b
    simp only at *
    simp only [Mg.mk.injEq]
    exact ⟨h0, UInt32.toNat_inj.1 (by omega), UInt64.toNat_inj.1 (by omega), UInt64.toNat_inj.1 (by omega), h4, h5, h6, h7, UInt32.toNat_inj.1 (by omega), h9, h10, l0, l1, l2, h11, h12, l3, h13, h14, l4, l5, l6, l7⟩
  · rintro rfl
    simp
end Go.Proofs.YtiadfaipmpogbaaGreat
